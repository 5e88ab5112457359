/- Plain mathematics of texts: how many bytes two lists begin alike with, and which of two stands ahead. No condition. -/
import GoSem.Op.String
import Derived.WalkKit
import Derived.WalkSpells
import Derived.WalkLawsBesides
import Derived.Deep.QuietTactic
import Derived.BigQuiet
import Derived.Lib.Hide
import Derived.Maps.AppendAt
import Derived.Laws.BitsAllLaws
import Derived.Test.YtkomnnijnggbpaaGreatDoorProg
import Derived.Laws.BytesArg
import Derived.RangeFuncBox
import Derived.Laws.Rows
import Derived.Lib.AppendStr
import Derived.Deep.RegionHeld3
import Derived.Maps.Own
import Derived.Maps.OwnOps
import Derived.Maps.OwnSet
namespace Go.Proofs.YtkomnnijnggbpaaGreatDoor

def shared : List UInt8 → List UInt8 → Nat
 | a :: us, b :: bs => if a = b then shared us bs + 1 else 0
 | _, _ => 0

theorem shared_le_left : ∀ a b : List UInt8, shared a b ≤ a.length
 | [], _ => by simp [shared]
 | a :: us, [] => by simp [shared]
 | a :: us, b :: bs => by
   have := shared_le_left us bs
   unfold shared
   split <;> simp <;> omega

theorem shared_le_right : ∀ a b : List UInt8, shared a b ≤ b.length
 | [], _ => by simp [shared]
 | a :: us, [] => by simp [shared]
 | a :: us, b :: bs => by
   have := shared_le_right us bs
   unfold shared
   split <;> simp <;> omega

theorem shared_eq : ∀ (k : Nat) (a b : List UInt8), k ≤ a.length → k ≤ b.length → (∀ i, i < k → a[i]? = b[i]?) →
   (k = a.length ∨ k = b.length ∨ a[k]? ≠ b[k]?) → shared a b = k
 | 0, a, b, _, _, _, he => by
   match a, b with
   | [], _ => simp [shared]
   | _ :: _, [] => simp [shared]
   | x :: us, y :: bs =>
     simp at he
     simp [shared, he]
 | k + 1, a, b, ha, hb, hl, he => by
   match a, b with
   | [], _ => simp at ha
   | _ :: _, [] => simp at hb
   | x :: us, y :: bs =>
     have h0 := hl 0 (by omega)
     simp at h0
     subst h0
     have := shared_eq k us bs (by simpa using ha) (by simpa using hb) (fun i hi => by simpa using hl (i + 1) (by omega)) (by simpa using he)
     simp [shared, this]

def ahead (a b : List UInt8) : Bool :=
 if shared a b < a.length ∧ shared a b < b.length then decide ((a.getD (shared a b) 0).toNat < (b.getD (shared a b) 0).toNat) else decide (a.length < b.length)

theorem ahead_def (a b : List UInt8) : ahead a b = if shared a b < a.length ∧ shared a b < b.length then decide ((a.getD (shared a b) 0).toNat < (b.getD (shared a b) 0).toNat) else decide (a.length < b.length) := rfl

theorem ahead_less : ∀ a b : List UInt8, Op.bytesLess a b = ahead a b
 | [], [] => by simp [Op.bytesLess, ahead]
 | a :: us, [] => by simp [Op.bytesLess, ahead]
 | [], b :: bs => by simp [Op.bytesLess, ahead]
 | a :: us, b :: bs => by
   have ih := ahead_less us bs
   unfold Op.bytesLess
   by_cases h : a = b
   · subst h
     rw [ih]
     unfold ahead
     have e : shared (a :: us) (a :: bs) = shared us bs + 1 := by simp [shared]
     rw [e]
     simp [UInt8.lt_irrefl]
   · have e : shared (a :: us) (b :: bs) = 0 := by simp [shared, h]
     simp [ahead, e, h, UInt8.lt_iff_toNat_lt]

theorem less_total : ∀ a b : List UInt8, a ≠ b → Op.bytesLess a b = false → Op.bytesLess b a = true
 | [], [], h, _ => absurd rfl h
 | a :: us, [], _, _ => by simp [Op.bytesLess]
 | [], b :: bs, _, h => by simp [Op.bytesLess] at h
 | a :: us, b :: bs, hne, h => by
   simp only [Op.bytesLess, Bool.or_eq_false_iff, decide_eq_false_iff_not, Bool.and_eq_false_iff, beq_eq_false_iff_ne] at h
   simp only [Op.bytesLess, Bool.or_eq_true, decide_eq_true_eq, Bool.and_eq_true, beq_iff_eq]
   by_cases e : a = b
   · subst e
     refine Or.inr ⟨rfl, less_total us bs (fun e => hne (by rw [e])) ?_⟩
     rcases h.2 with h2 | h2
     · exact absurd rfl h2
     · exact h2
   · have h1 := h.1
     rw [UInt8.lt_iff_toNat_lt] at h1
     rw [UInt8.lt_iff_toNat_lt]
     have : a.toNat ≠ b.toNat := fun e2 => e (UInt8.toNat_inj.1 e2)
     exact Or.inl (by omega)

theorem shared_take : ∀ a b : List UInt8, a.take (shared a b) = b.take (shared a b)
 | [], [] => rfl
 | a :: us, [] => by simp [shared]
 | [], b :: bs => by simp [shared]
 | a :: us, b :: bs => by
   unfold shared
   by_cases e : a = b
   · subst e; simp [shared_take us bs]
   · rw [if_neg e]; simp
end Go.Proofs.YtkomnnijnggbpaaGreatDoor
/- Plain mathematics of numbers in bytes. -/
namespace Go.Proofs.YtkomnnijnggbpaaGreatDoor
set_option linter.unusedVariables false

def fixB (n k : Nat) : List UInt8 := (List.range k).map fun i => UInt8.ofNat (n / 2 ^ (8 * i))
theorem fix_length (n k : Nat) : (fixB n k).length = k := by simp [fixB]
theorem fix_succ (n k : Nat) : fixB n (k + 1) = fixB n k ++ [UInt8.ofNat (n / 2 ^ (8 * k))] := by simp [fixB, List.range_succ]
def fixVal : List UInt8 → Nat
 | [] => 0
 | c :: l => c.toNat + 256 * fixVal l
theorem fixVal_snoc (l : List UInt8) (c : UInt8) : fixVal (l ++ [c]) = fixVal l + 2 ^ (8 * l.length) * c.toNat := by
 induction l with
 | nil => simp [fixVal]
 | cons a l ih =>
   simp only [List.cons_append, fixVal, ih, List.length_cons]
   have : 2 ^ (8 * (l.length + 1)) = 256 * 2 ^ (8 * l.length) := by rw [Nat.mul_add, Nat.pow_add]; omega
   rw [this, Nat.mul_add, Nat.mul_assoc]; omega
theorem fixVal_lt (l : List UInt8) : fixVal l < 2 ^ (8 * l.length) := by
 induction l with
 | nil => simp [fixVal]
 | cons a l ih =>
   simp only [fixVal, List.length_cons]
   have : 2 ^ (8 * (l.length + 1)) = 256 * 2 ^ (8 * l.length) := by rw [Nat.mul_add, Nat.pow_add]; omega
   have ha := a.toNat_lt
   omega
theorem fixVal_fix (n k : Nat) : fixVal (fixB n k) = n % 2 ^ (8 * k) := by
 induction k with
 | zero => simp [fixB, fixVal, Nat.mod_one]
 | succ k ih =>
   rw [fix_succ, fixVal_snoc, ih, fix_length]
   have e : 2 ^ (8 * (k + 1)) = 2 ^ (8 * k) * 256 := by rw [Nat.mul_add, Nat.pow_add]
   rw [e, Nat.mod_mul]
   simp
theorem fix_cons (n k : Nat) : fixB n (k + 1) = UInt8.ofNat n :: fixB (n / 256) k := by
 unfold fixB
 rw [List.range_succ_eq_map]
 simp only [List.map_cons, List.map_map, Nat.mul_zero, Nat.pow_zero, Nat.div_one]
 congr 1
 apply List.map_congr_left
 intro i hi
 simp only [Function.comp]
 congr 1
 rw [Nat.div_div_eq_div_mul]
 congr 1
 rw [Nat.succ_eq_add_one, Nat.mul_add, Nat.pow_add]; omega
theorem fix_inj {n m k : Nat} (h : fixB n k = fixB m k) : n % 2 ^ (8 * k) = m % 2 ^ (8 * k) := by rw [← fixVal_fix, ← fixVal_fix, h]

def putFix (n b : Int) : List UInt8 := if 0 ≤ n ∧ 1 ≤ b ∧ b ≤ 4 then fixB n.toNat b.toNat else []
def getFix (l : List UInt8) (at_ b : Int) : Int := if 1 ≤ b ∧ b ≤ 4 ∧ 0 ≤ at_ ∧ at_ + b ≤ l.length then fixVal ((l.drop at_.toNat).take b.toNat) else -1

def varB (n : Nat) : List UInt8 := if h : n < 128 then [UInt8.ofNat n] else UInt8.ofNat (n % 128 + 128) :: varB (n / 128)
termination_by n
decreasing_by omega
theorem var_small {n : Nat} (h : n < 128) : varB n = [UInt8.ofNat n] := by rw [varB, dif_pos h]
theorem var_step {n : Nat} (h : 128 ≤ n) : varB n = UInt8.ofNat (n % 128 + 128) :: varB (n / 128) := by rw [varB, dif_neg (by omega)]
theorem var_ne (n : Nat) : varB n ≠ [] := by
 by_cases h : n < 128
 · rw [var_small h]; simp
 · rw [var_step (by omega)]; simp
def varVal : List UInt8 → Nat
 | [] => 0
 | c :: l => c.toNat % 128 + 128 * varVal l
theorem varVal_var (n : Nat) : varVal (varB n) = n := by
 induction n using Nat.strongRecOn with
 | _ n ih =>
   by_cases h : n < 128
   · rw [var_small h]; simp [varVal]; omega
   · rw [var_step (by omega), varVal, ih (n / 128) (by omega)]
     simp only [UInt8.toNat_ofNat']
     omega
theorem var_inj {n m : Nat} (h : varB n = varB m) : n = m := by rw [← varVal_var n, ← varVal_var m, h]
theorem var_len_le (k : Nat) : ∀ n, n < 2 ^ (7 * (k + 1)) → (varB n).length ≤ k + 1 := by
 induction k with
 | zero => intro n h; rw [var_small (by simpa using h)]; simp
 | succ k ih =>
   intro n h
   by_cases h1 : n < 128
   · rw [var_small h1]; simp
   · rw [var_step (by omega)]
     have e : 2 ^ (7 * (k + 1 + 1)) = 128 * 2 ^ (7 * (k + 1)) := by rw [Nat.mul_add 7 (k + 1) 1, Nat.pow_add]; omega
     have := ih (n / 128) (by omega)
     simp only [List.length_cons]
     omega
def varTake : Nat → List UInt8 → Option (List UInt8)
 | 0, _ => none
 | _, [] => none
 | k + 1, c :: l => if c.toNat < 128 then some [c] else (varTake k l).map (c :: ·)
theorem varTake_var (k : Nat) : ∀ (n : Nat) (r : List UInt8), (varB n).length ≤ k → varTake k (varB n ++ r) = some (varB n) := by
 induction k with
 | zero => intro n r h; have := List.length_pos_iff.2 (var_ne n); omega
 | succ k ih =>
   intro n r h
   by_cases h1 : n < 128
   · rw [var_small h1]
     have : (UInt8.ofNat n).toNat < 128 := by rw [UInt8.toNat_ofNat']; omega
     rw [List.singleton_append, varTake, if_pos this]
   · rw [var_step (by omega)] at h ⊢
     have : ¬ (UInt8.ofNat (n % 128 + 128)).toNat < 128 := by rw [UInt8.toNat_ofNat']; omega
     rw [List.cons_append, varTake, if_neg this, ih (n / 128) r (by simpa using h)]
     rfl
def Groups : List UInt8 → Prop
 | [] => False
 | [c] => c.toNat < 128
 | c :: d :: l => 128 ≤ c.toNat ∧ Groups (d :: l)
theorem var_varVal : ∀ (l : List UInt8), Groups l → (l.length = 1 ∨ l.getLast? ≠ some 0) → varB (varVal l) = l ∧ (l.length = 1 ∨ 1 ≤ varVal l)
 | [], h, _ => h.elim
 | [c], h, _ => by
   simp only [Groups] at h
   have e : varVal [c] = c.toNat := by simp only [varVal]; omega
   rw [e, var_small h]
   exact ⟨by simp, Or.inl rfl⟩
 | c :: d :: l, h, h0 => by
   obtain ⟨h1, h2⟩ := h
   have hc := c.toNat_lt
   have h0' : (d :: l).getLast? ≠ some 0 := by
     rcases h0 with h0 | h0
     · simp at h0
     · simpa [List.getLast?_cons_cons] using h0
   have ih := var_varVal (d :: l) h2 (Or.inr h0')
   have hpos : 1 ≤ varVal (d :: l) := by
     rcases ih.2 with h3 | h3
     · have hl : l = [] := by simpa using h3
       subst hl
       simp only [Groups] at h2
       have : d.toNat ≠ 0 := by
         intro e
         apply h0'
         have : d = 0 := UInt8.toNat_inj.1 (by simpa using e)
         simp [this]
       simp only [varVal]; omega
     · exact h3
   have e : varVal (c :: d :: l) = c.toNat % 128 + 128 * varVal (d :: l) := rfl
   refine ⟨?_, Or.inr (by rw [e]; omega)⟩
   rw [e, var_step (by omega)]
   have e1 : (c.toNat % 128 + 128 * varVal (d :: l)) / 128 = varVal (d :: l) := by omega
   have e2 : (c.toNat % 128 + 128 * varVal (d :: l)) % 128 + 128 = c.toNat := by omega
   rw [e1, ih.1, e2]
   simp
theorem groups_zero : ∀ (l : List UInt8), Groups l → 2 ≤ l.length → l.getLast? = some 0 → varB (varVal l) ≠ l := by
 intro l hg h2 h0 e
 have : ∀ n, 2 ≤ (varB n).length → (varB n).getLast? ≠ some 0 := by
   intro n
   induction n using Nat.strongRecOn with
   | _ n ih =>
     intro hl
     by_cases h : n < 128
     · rw [var_small h] at hl; simp at hl
     · rw [var_step (by omega)] at hl ⊢
       by_cases h3 : n / 128 < 128
       · rw [var_small h3]
         simp only [List.getLast?_cons_cons, List.getLast?_singleton, ne_eq, Option.some.injEq]
         intro e
         have := congrArg UInt8.toNat e
         rw [UInt8.toNat_ofNat'] at this
         simp at this
         omega
       · have h4 : 2 ≤ (varB (n / 128)).length := by
           rw [var_step (n := n / 128) (by omega)]
           have := List.length_pos_iff.2 (var_ne (n / 128 / 128))
           simp only [List.length_cons]; omega
         have := ih (n / 128) (by omega) h4
         cases hv : varB (n / 128) with
         | nil => exact absurd hv (var_ne _)
         | cons d l => rw [hv] at this; rw [List.getLast?_cons_cons]; exact this
 exact this (varVal l) (by rw [e]; exact h2) (by rw [e]; exact h0)
def putVar (n : Int) : List UInt8 := if 0 ≤ n ∧ n ≤ 4611686018427387903 then varB n.toNat else []
def getVarAt (l : List UInt8) (at_ : Int) : Option (List UInt8) :=
 if 0 ≤ at_ ∧ at_ ≤ l.length then (varTake 9 (l.drop at_.toNat)).filter (fun g => putVar (varVal g) == g) else none
def getVar1 (l : List UInt8) (at_ : Int) : Int := match getVarAt l at_ with | some g => varVal g | none => 0
def getVar2 (l : List UInt8) (at_ : Int) : Int := match getVarAt l at_ with | some g => at_ + g.length | none => -1

theorem varVal_snoc (l : List UInt8) (c : UInt8) : varVal (l ++ [c]) = varVal l + 2 ^ (7 * l.length) * (c.toNat % 128) := by
 induction l with
 | nil => simp [varVal]
 | cons a l ih =>
   simp only [List.cons_append, varVal, ih, List.length_cons]
   have : 2 ^ (7 * (l.length + 1)) = 128 * 2 ^ (7 * l.length) := by rw [Nat.mul_add, Nat.pow_add]; omega
   rw [this, Nat.mul_add, Nat.mul_assoc]; omega
theorem varVal_lt (l : List UInt8) : varVal l < 2 ^ (7 * l.length) := by
 induction l with
 | nil => simp [varVal]
 | cons a l ih =>
   simp only [varVal, List.length_cons]
   have : 2 ^ (7 * (l.length + 1)) = 128 * 2 ^ (7 * l.length) := by rw [Nat.mul_add, Nat.pow_add]; omega
   omega
def More (L : List UInt8) (i : Nat) : Prop := i ≤ L.length ∧ ∀ c ∈ L.take i, 128 ≤ c.toNat
theorem More.succ {L : List UInt8} {i : Nat} {c : UInt8} (h : More L i) (hc : L[i]? = some c) (h1 : 128 ≤ c.toNat) : More L (i + 1) := by
 obtain ⟨hi, e⟩ := List.getElem?_eq_some_iff.1 hc
 refine ⟨by omega, fun d hd => ?_⟩
 rw [List.take_succ_eq_append_getElem hi, List.mem_append] at hd
 rcases hd with hd | hd
 · exact h.2 d hd
 · simp at hd; rw [hd, e]; exact h1
theorem varTake_run (i : Nat) : ∀ (k : Nat) (L : List UInt8), More L i → i ≤ k → varTake k L = (varTake (k - i) (L.drop i)).map (L.take i ++ ·) := by
 induction i with
 | zero => intro k L _ _; simp
 | succ i ih =>
   intro k L h hk
   cases L with
   | nil => have := h.1; simp at this
   | cons c L =>
     cases k with
     | zero => omega
     | succ k =>
       have hc := h.2 c (by simp)
       have hm : More L i := ⟨by have := h.1; simp at this; omega, fun d hd => h.2 d (by simp [hd])⟩
       rw [varTake, if_neg (by omega), ih k L hm (by omega)]
       have e : k + 1 - (i + 1) = k - i := by omega
       rw [e, List.drop_succ_cons, List.take_succ_cons]
       cases varTake (k - i) (L.drop i) <;> simp
theorem varTake_found {L : List UInt8} {i k : Nat} {c : UInt8} (h : More L i) (hk : i < k) (hc : L[i]? = some c) (h1 : c.toNat < 128) : varTake k L = some (L.take (i + 1)) := by
 obtain ⟨hi, e⟩ := List.getElem?_eq_some_iff.1 hc
 rw [varTake_run i k L h (by omega), List.drop_eq_getElem_cons hi, List.take_succ_eq_append_getElem hi, e]
 obtain ⟨m, hm⟩ : ∃ m, k - i = m + 1 := ⟨k - i - 1, by omega⟩
 rw [hm, varTake, if_pos h1]
 rfl
theorem varTake_ended {L : List UInt8} {i k : Nat} (h : More L i) (hk : i ≤ k) (he : L.length ≤ i ∨ i = k) : varTake k L = none := by
 rw [varTake_run i k L h hk]
 rcases he with he | he
 · rw [List.drop_of_length_le he]
   cases k - i <;> rfl
 · rw [he, Nat.sub_self]; rfl
theorem groups_run (l : List UInt8) (c : UInt8) (h : ∀ d ∈ l, 128 ≤ d.toNat) (hc : c.toNat < 128) : Groups (l ++ [c]) := by
 induction l with
 | nil => exact hc
 | cons a l ih =>
   have ih := ih (fun d hd => h d (by simp [hd]))
   have ha := h a (by simp)
   cases l with
   | nil => exact ⟨ha, hc⟩
   | cons b l => exact ⟨ha, ih⟩

theorem putVar_big {n : Nat} (h : 4611686018427387903 < n) : putVar n = [] := by unfold putVar; rw [if_neg (by omega)]
theorem putVar_in {n : Nat} (h : n ≤ 4611686018427387903) : putVar n = varB n := by unfold putVar; rw [if_pos (by omega), Int.toNat_natCast]
theorem getVar_yes {l : List UInt8} {a i : Nat} {c : UInt8} (ha : a ≤ l.length) (h : More (l.drop a) i) (hk : i < 9) (hc : (l.drop a)[i]? = some c) (h1 : c.toNat < 128)
   (h2 : ¬ (c.toNat = 0 ∧ 0 < i)) (h3 : varVal ((l.drop a).take (i + 1)) ≤ 4611686018427387903) : getVarAt l a = some ((l.drop a).take (i + 1)) ∧ varB (varVal ((l.drop a).take (i + 1))) = (l.drop a).take (i + 1) := by
 obtain ⟨hi, e⟩ := List.getElem?_eq_some_iff.1 hc
 have hg : Groups ((l.drop a).take (i + 1)) := by rw [List.take_succ_eq_append_getElem hi, e]; exact groups_run _ _ h.2 h1
 have hv := (var_varVal _ hg (by
   rw [List.take_succ_eq_append_getElem hi, e]
   by_cases h0 : i = 0
   · left; subst h0; simp
   · right
     simp only [List.getLast?_append, List.getLast?_singleton, Option.some_or, ne_eq, Option.some.injEq]
     intro e2; rw [e2] at h2; exact h2 ⟨rfl, by omega⟩)).1
 refine ⟨?_, hv⟩
 unfold getVarAt
 rw [if_pos (by omega), Int.toNat_natCast, varTake_found h hk hc h1]
 have hp : putVar (varVal ((l.drop a).take (i + 1))) = (l.drop a).take (i + 1) := by rw [putVar_in h3, hv]
 simp [Option.filter, hp]
theorem getVar_bad {l : List UInt8} {a i : Nat} {c : UInt8} (ha : a ≤ l.length) (h : More (l.drop a) i) (hk : i < 9) (hc : (l.drop a)[i]? = some c) (h1 : c.toNat < 128)
   (h2 : (c.toNat = 0 ∧ 0 < i) ∨ 4611686018427387903 < varVal ((l.drop a).take (i + 1))) : getVarAt l a = none := by
 obtain ⟨hi, e⟩ := List.getElem?_eq_some_iff.1 hc
 have hg : Groups ((l.drop a).take (i + 1)) := by rw [List.take_succ_eq_append_getElem hi, e]; exact groups_run _ _ h.2 h1
 unfold getVarAt
 rw [if_pos (by omega), Int.toNat_natCast, varTake_found h hk hc h1]
 simp only [Option.filter]
 rw [if_neg]
 intro hp
 have hp : putVar (varVal ((l.drop a).take (i + 1))) = (l.drop a).take (i + 1) := by simpa using hp
 have hne : (l.drop a).take (i + 1) ≠ [] := by rw [List.take_succ_eq_append_getElem hi]; simp
 by_cases hb : 4611686018427387903 < varVal ((l.drop a).take (i + 1))
 · rw [putVar_big hb] at hp; exact hne hp.symm
 · rw [putVar_in (by omega)] at hp
   rcases h2 with ⟨h4, h5⟩ | h4
   · refine groups_zero _ hg ?_ ?_ hp
     · rw [List.length_take]; omega
     · rw [List.take_succ_eq_append_getElem hi, e]
       simp only [List.getLast?_append, List.getLast?_singleton, Option.some_or, Option.some.injEq]
       exact UInt8.toNat_inj.1 (by simpa using h4)
   · exact hb h4
theorem getVar_none {l : List UInt8} {a i : Nat} (ha : a ≤ l.length) (h : More (l.drop a) i) (hk : i ≤ 9) (he : (l.drop a).length ≤ i ∨ i = 9) : getVarAt l a = none := by
 unfold getVarAt
 rw [if_pos (by omega), Int.toNat_natCast, varTake_ended h hk he]; rfl
theorem getVar_out {l : List UInt8} {a : Int} (h : a < 0 ∨ l.length < a) : getVarAt l a = none := by unfold getVarAt; rw [if_neg (by omega)]
theorem getVar_some {l g : List UInt8} {a : Int} (h : getVarAt l a = some g) : ∃ n : Nat, a = n ∧ n ≤ l.length ∧ putVar (varVal g) = g ∧ varVal g ≤ 4611686018427387903 ∧ g.length ≤ 9 ∧ g = (l.drop n).take g.length ∧ n + g.length ≤ l.length := by
 unfold getVarAt at h
 split at h
 · rename_i hc
   obtain ⟨n, rfl⟩ := Int.eq_ofNat_of_zero_le hc.1
   rw [Int.toNat_natCast, Option.filter_eq_some_iff] at h
   obtain ⟨h1, h2⟩ := h
   have h2 : putVar (varVal g) = g := by simpa using h2
   have pre : ∀ (k : Nat) (L g : List UInt8), varTake k L = some g → g.length ≤ k ∧ g = L.take g.length ∧ g.length ≤ L.length ∧ g ≠ [] := by
     intro k
     induction k with
     | zero => intro L g h; cases h
     | succ k ih =>
       intro L g h
       cases L with
       | nil => cases h
       | cons c L =>
         rw [varTake] at h
         split at h
         · cases h; simp
         · cases hv : varTake k L with
           | none => rw [hv] at h; cases h
           | some g' =>
             rw [hv] at h
             cases h
             obtain ⟨i1, i2, i3, i4⟩ := ih L g' hv
             refine ⟨by simp; omega, ?_, by simp; omega, by simp⟩
             simp only [List.length_cons, List.take_succ_cons]
             rw [← i2]
   obtain ⟨p1, p2, p3, p4⟩ := pre _ _ _ h1
   refine ⟨n, rfl, by omega, h2, ?_, p1, p2, by rw [List.length_drop] at p3; omega⟩
   by_cases hb : varVal g ≤ 4611686018427387903
   · exact hb
   · rw [putVar_big (by omega)] at h2; exact absurd h2.symm p4
 · cases h
theorem getVar_back (n : Nat) (h : n ≤ 4611686018427387903) (l r : List UInt8) : getVarAt (l ++ (varB n ++ r)) l.length = some (varB n) := by
 have hl : (varB n).length ≤ 9 := var_len_le 8 n (by omega)
 unfold getVarAt
 rw [if_pos (by simp; omega), Int.toNat_natCast, List.drop_left, varTake_var 9 n r hl]
 have hp : putVar (varVal (varB n)) = varB n := by rw [varVal_var, putVar_in h]
 simp [Option.filter, hp]
end Go.Proofs.YtkomnnijnggbpaaGreatDoor
/- Names, cells, their keys and their order: keys come back, and stand as their cells do. -/
namespace Go.Proofs.YtkomnnijnggbpaaGreatDoor
open Go.RowKit
set_option linter.unusedVariables false

structure Cel where
 row : ByteArray
 col : ByteArray
 time : Int
 gone : Bool
 value : ByteArray

def sign (c : UInt8) : Bool := decide (33 ≤ c.toNat) && decide (c.toNat ≤ 126)
def nameOk (l : List UInt8) : Bool := l.all sign && decide (1 ≤ l.length) && decide (l.length ≤ 16)
def timeOk (t : Int) : Bool := decide (0 ≤ t) && decide (t ≤ 1000000000)
def cellOk (x : Cel) : Bool := nameOk x.row.data.toList && nameOk x.col.data.toList && timeOk x.time && decide (x.value.size ≤ 30) && (!x.gone || x.value.data.toList.isEmpty)

theorem sign_no {c : UInt8} (h : c.toNat < 33 ∨ 126 < c.toNat) : sign c = false := by unfold sign; rcases h with h | h <;> simp <;> omega
theorem sign_yes {c : UInt8} (h1 : 33 ≤ c.toNat) (h2 : c.toNat ≤ 126) : sign c = true := by unfold sign; simp; omega
theorem sign_bd {c : UInt8} (h : sign c = true) : 33 ≤ c.toNat ∧ c.toNat ≤ 126 := by simpa [sign] using h
theorem name_bad {l : List UInt8} {k : Nat} {c : UInt8} (hk : l[k]? = some c) (h : sign c = false) : nameOk l = false := by
 have hm : c ∈ l := List.mem_of_getElem? hk
 unfold nameOk
 rw [show l.all sign = false from List.all_eq_false.2 ⟨c, hm, by simp [h]⟩]
 rfl
theorem name_len {l : List UInt8} (h : l.length < 1 ∨ 16 < l.length) : nameOk l = false := by
 unfold nameOk
 rcases h with h | h
 · rw [show decide (1 ≤ l.length) = false from decide_eq_false (by omega)]; simp
 · rw [show decide (l.length ≤ 16) = false from decide_eq_false (by omega)]; simp
theorem name_good {l : List UInt8} (h : ∀ j, j < l.length → ∃ c, l[j]? = some c ∧ sign c = true) (h1 : 1 ≤ l.length) (h2 : l.length ≤ 16) : nameOk l = true := by
 unfold nameOk
 have : l.all sign = true := List.all_eq_true.2 (fun c hc => by
   obtain ⟨j, hj⟩ := List.mem_iff_getElem?.1 hc
   obtain ⟨d, hd, hs⟩ := h j (List.getElem?_eq_some_iff.1 hj).1
   rw [hj] at hd
   cases hd
   exact hs)
 simp [this, h1, h2]
theorem name_parts {l : List UInt8} (h : nameOk l = true) : (∀ c ∈ l, sign c = true) ∧ 1 ≤ l.length ∧ l.length ≤ 16 := by
 unfold nameOk at h
 simp only [Bool.and_eq_true, decide_eq_true_eq, List.all_eq_true] at h
 exact ⟨h.1.1, h.1.2, h.2⟩
theorem name_zero {l : List UInt8} (h : nameOk l = true) : (0 : UInt8) ∉ l := fun hm => by
 have := (name_parts h).1 0 hm
 simp [sign] at this
theorem time_no {t : Int} (h : t < 0 ∨ 1000000000 < t) : timeOk t = false := by unfold timeOk; rcases h with h | h <;> simp <;> omega
theorem time_yes {t : Int} (h1 : 0 ≤ t) (h2 : t ≤ 1000000000) : timeOk t = true := by unfold timeOk; simp; omega
theorem time_bd {t : Int} (h : timeOk t = true) : 0 ≤ t ∧ t ≤ 1000000000 := by simpa [timeOk] using h

def key (r c : List UInt8) (t : Int) : List UInt8 := r ++ 0 :: (c ++ 0 :: (fixB (1000000000 - t).toNat 4).reverse)
def keyOk (r c : List UInt8) (t : Int) : Bool := nameOk r && nameOk c && timeOk t
def keyOf (r c : List UInt8) (t : Int) : List UInt8 := if keyOk r c t = true then key r c t else []
theorem key_ne (r c : List UInt8) (t : Int) : key r c t ≠ [] := by unfold key; simp
theorem key_len (r c : List UInt8) (t : Int) : (key r c t).length = r.length + c.length + 6 := by unfold key; simp [fix_length]; omega
theorem keyOf_yes {r c : List UInt8} {t : Int} (h : keyOk r c t = true) : keyOf r c t = key r c t := if_pos h
theorem keyOf_no {r c : List UInt8} {t : Int} (h : keyOk r c t = false) : keyOf r c t = [] := if_neg (by simp [h])
theorem keyOf_ok {r c : List UInt8} {t : Int} (h : keyOf r c t ≠ []) : keyOk r c t = true := by
 cases h1 : keyOk r c t
 · exact absurd (keyOf_no h1) h
 · rfl
theorem keyOk_parts {r c : List UInt8} {t : Int} (h : keyOk r c t = true) : nameOk r = true ∧ nameOk c = true ∧ timeOk t = true := by
 unfold keyOk at h
 simp only [Bool.and_eq_true] at h
 exact ⟨h.1.1, h.1.2, h.2⟩

theorem cut_zero : ∀ {r r' x x' : List UInt8}, (0 : UInt8) ∉ r → (0 : UInt8) ∉ r' → r ++ 0 :: x = r' ++ 0 :: x' → r = r' ∧ x = x'
 | [], [], x, x', _, _, h => by simpa using h
 | [], b :: bs, x, x', _, h2, h => by simp at h; exact absurd (by simp [← h.1]) h2
 | a :: us, [], x, x', h1, _, h => by simp at h; exact absurd (by simp [h.1]) h1
 | a :: us, b :: bs, x, x', h1, h2, h => by
   simp at h
   obtain ⟨e1, e2⟩ := cut_zero (r := us) (r' := bs) (fun hm => h1 (by simp [hm])) (fun hm => h2 (by simp [hm])) h.2
   exact ⟨by rw [h.1, e1], e2⟩
theorem fix4_inj {n m : Nat} (hn : n ≤ 1000000000) (hm : m ≤ 1000000000) (h : (fixB n 4).reverse = (fixB m 4).reverse) : n = m := by
 have h1 := fix_inj (List.reverse_inj.1 h)
 rw [Nat.mod_eq_of_lt (by omega), Nat.mod_eq_of_lt (by omega)] at h1
 exact h1
theorem key_inj {r c r' c' : List UInt8} {t t' : Int} (h1 : keyOk r c t = true) (h2 : keyOk r' c' t' = true) (h : key r c t = key r' c' t') : r = r' ∧ c = c' ∧ t = t' := by
 obtain ⟨a1, a2, a3⟩ := keyOk_parts h1
 obtain ⟨b1, b2, b3⟩ := keyOk_parts h2
 obtain ⟨e1, e2⟩ := cut_zero (name_zero a1) (name_zero b1) h
 obtain ⟨e3, e4⟩ := cut_zero (name_zero a2) (name_zero b2) e2
 have := time_bd a3
 have := time_bd b3
 have e5 := fix4_inj (by omega) (by omega) e4
 exact ⟨e1, e3, by omega⟩

def ReadIs (l : List UInt8) (r c : List UInt8) (t : Int) : Prop := (keyOk r c t = true ∧ l = key r c t) ∨ (r = [] ∧ c = [] ∧ t = -1 ∧ ∀ r' c' t', keyOk r' c' t' = true → l ≠ key r' c' t')
theorem read_one {l r c r' c' : List UInt8} {t t' : Int} (h : ReadIs l r c t) (h' : ReadIs l r' c' t') : r = r' ∧ c = c' ∧ t = t' := by
 rcases h with ⟨h1, h2⟩ | ⟨rfl, rfl, rfl, h2⟩
 · rcases h' with ⟨h3, h4⟩ | ⟨_, _, _, h4⟩
   · exact key_inj h1 h3 (h2.symm.trans h4)
   · exact absurd h2 (h4 _ _ _ h1)
 · rcases h' with ⟨h3, h4⟩ | ⟨rfl, rfl, rfl, h4⟩
   · exact absurd h4 (h2 _ _ _ h3)
   · exact ⟨rfl, rfl, rfl⟩
theorem read_back {r c : List UInt8} {t : Int} (h : keyOk r c t = true) : ReadIs (keyOf r c t) r c t := .inl ⟨h, keyOf_yes h⟩
def celBefore (a b : Cel) : Bool :=
 if a.row.data.toList = b.row.data.toList then (if a.col.data.toList = b.col.data.toList then decide (b.time < a.time) else ahead a.col.data.toList b.col.data.toList) else ahead a.row.data.toList b.row.data.toList

theorem less_cut : ∀ (r r' x y : List UInt8), (∀ c ∈ r, sign c = true) → (∀ c ∈ r', sign c = true) → Op.bytesLess (r ++ 0 :: x) (r' ++ 0 :: y) = if r = r' then Op.bytesLess x y else Op.bytesLess r r'
 | [], [], x, y, _, _ => by simp [Op.bytesLess]
 | [], b :: bs, x, y, _, h => by
   have := sign_bd (h b (by simp))
   simp [Op.bytesLess, UInt8.lt_iff_toNat_lt]
   omega
 | a :: us, [], x, y, h, _ => by
   have := sign_bd (h a (by simp))
   have h0 : a ≠ 0 := by rintro rfl; simp at this
   simp [Op.bytesLess, UInt8.lt_iff_toNat_lt, h0]
 | a :: us, b :: bs, x, y, h1, h2 => by
   have ih := less_cut us bs x y (fun c hc => h1 c (by simp [hc])) (fun c hc => h2 c (by simp [hc]))
   simp only [List.cons_append, Op.bytesLess, ih, List.cons.injEq]
   by_cases e : a = b
   · subst e
     by_cases e2 : us = bs
     · simp [e2]
     · simp [e2]
   · have e' : (a == b) = false := by simpa using e
     simp [e, e']
theorem less_snoc : ∀ (a b : List UInt8) (c d : UInt8), a.length = b.length → Op.bytesLess (a ++ [c]) (b ++ [d]) = (Op.bytesLess a b || (decide (a = b) && decide (c < d)))
 | [], [], c, d, _ => by simp [Op.bytesLess]
 | [], b :: bs, c, d, h => by simp at h
 | a :: us, [], c, d, h => by simp at h
 | a :: us, b :: bs, c, d, h => by
   have ih := less_snoc us bs c d (by simpa using h)
   simp only [List.cons_append, Op.bytesLess, ih, List.cons.injEq]
   by_cases e : a = b
   · subst e; simp [UInt8.lt_iff_toNat_lt]
   · have e' : (a == b) = false := by simpa using e
     simp [e, e']
theorem less_fix (k : Nat) : ∀ n m : Nat, n < 2 ^ (8 * k) → m < 2 ^ (8 * k) → Op.bytesLess (fixB n k).reverse (fixB m k).reverse = decide (n < m) := by
 induction k with
 | zero => intro n m hn hm; simp at hn hm; subst hn hm; simp [fixB, Op.bytesLess]
 | succ k ih =>
   intro n m hn hm
   have hp : 2 ^ (8 * (k + 1)) = 2 ^ (8 * k) * 256 := by rw [show 8 * (k + 1) = 8 * k + 8 by omega, Nat.pow_add]
   rw [hp] at hn hm
   have hn' : n / 256 < 2 ^ (8 * k) := Nat.div_lt_of_lt_mul (by rw [Nat.mul_comm]; exact hn)
   have hm' : m / 256 < 2 ^ (8 * k) := Nat.div_lt_of_lt_mul (by rw [Nat.mul_comm]; exact hm)
   rw [fix_cons, fix_cons, List.reverse_cons, List.reverse_cons, less_snoc _ _ _ _ (by simp [fix_length]), ih _ _ hn' hm']
   have he : ((fixB (n / 256) k).reverse = (fixB (m / 256) k).reverse) ↔ n / 256 = m / 256 := by
     rw [List.reverse_inj]
     constructor
     · intro h
       have h1 := fix_inj h
       rwa [Nat.mod_eq_of_lt hn', Nat.mod_eq_of_lt hm'] at h1
     · intro h; rw [h]
   have hd : decide ((fixB (n / 256) k).reverse = (fixB (m / 256) k).reverse) = decide (n / 256 = m / 256) := decide_eq_decide.2 he
   rw [hd]
   simp only [UInt8.lt_iff_toNat_lt, UInt8.toNat_ofNat']
   rw [Bool.eq_iff_iff]
   simp only [Bool.or_eq_true, Bool.and_eq_true, decide_eq_true_eq]
   omega
theorem less_key {r c r' c' : List UInt8} {t t' : Int} (h1 : keyOk r c t = true) (h2 : keyOk r' c' t' = true) : Op.bytesLess (key r c t) (key r' c' t') = if r = r' then (if c = c' then decide (t' < t) else Op.bytesLess c c') else Op.bytesLess r r' := by
 obtain ⟨a1, a2, a3⟩ := keyOk_parts h1
 obtain ⟨b1, b2, b3⟩ := keyOk_parts h2
 have := time_bd a3
 have := time_bd b3
 unfold key
 rw [less_cut _ _ _ _ (name_parts a1).1 (name_parts b1).1, less_cut _ _ _ _ (name_parts a2).1 (name_parts b2).1, less_fix 4 _ _ (by omega) (by omega)]
 have : decide ((1000000000 - t).toNat < (1000000000 - t').toNat) = decide (t' < t) := by rw [decide_eq_decide]; omega
 rw [this]
theorem less_trans : ∀ a b c : List UInt8, Op.bytesLess a b = true → Op.bytesLess b c = true → Op.bytesLess a c = true
 | [], _, [], h1, h2 => by
   rename_i b
   cases b <;> simp [Op.bytesLess] at h2 h1
 | [], _, c :: cs, _, _ => by simp [Op.bytesLess]
 | a :: us, [], _, h1, _ => by simp [Op.bytesLess] at h1
 | a :: us, b :: bs, [], _, h2 => by simp [Op.bytesLess] at h2
 | a :: us, b :: bs, c :: cs, h1, h2 => by
   have ih := less_trans us bs cs
   simp only [Op.bytesLess, Bool.or_eq_true, decide_eq_true_eq, Bool.and_eq_true, beq_iff_eq, UInt8.lt_iff_toNat_lt] at h1 h2 ⊢
   rcases h1 with h1 | ⟨rfl, h1⟩
   · rcases h2 with h2 | ⟨rfl, h2⟩
     · exact .inl (by omega)
     · exact .inl h1
   · rcases h2 with h2 | ⟨rfl, h2⟩
     · exact .inl h2
     · exact .inr ⟨rfl, ih h1 h2⟩

def celKey (x : Cel) : List UInt8 := keyOf x.row.data.toList x.col.data.toList x.time
theorem cel_keyOk {x : Cel} (h : cellOk x = true) : keyOk x.row.data.toList x.col.data.toList x.time = true := by
 unfold cellOk at h
 simp only [Bool.and_eq_true] at h
 unfold keyOk
 simp [h.1.1.1.1, h.1.1.1.2, h.1.1.2]
theorem before_key {a b : Cel} (ha : cellOk a = true) (hb : cellOk b = true) : celBefore a b = ahead (celKey a) (celKey b) := by
 unfold celKey
 rw [keyOf_yes (cel_keyOk ha), keyOf_yes (cel_keyOk hb), ← ahead_less, less_key (cel_keyOk ha) (cel_keyOk hb)]
 unfold celBefore
 simp only [ahead_less]
def okAt (xs : List Cel) (i : Nat) : Bool := match xs[i]? with
 | none => true
 | some x => cellOk x && (match i with | 0 => true | j + 1 => match xs[j]? with | none => true | some y => celBefore y x)
def cellsOk (xs : List Cel) : Bool := (List.range xs.length).all (okAt xs)
theorem cellsOk_yes {xs : List Cel} (h : ∀ j, j < xs.length → okAt xs j = true) : cellsOk xs = true := List.all_eq_true.2 (fun j hj => h j (List.mem_range.1 hj))
theorem cellsOk_no {xs : List Cel} {i : Nat} (hi : i < xs.length) (h : okAt xs i = false) : cellsOk xs = false := List.all_eq_false.2 ⟨i, List.mem_range.2 hi, by simp [h]⟩
theorem cellsOk_at {xs : List Cel} (h : cellsOk xs = true) {j : Nat} (hj : j < xs.length) : okAt xs j = true := List.all_eq_true.1 h j (List.mem_range.2 hj)
theorem okAt_zero {xs : List Cel} {x : Cel} (h : xs[0]? = some x) : okAt xs 0 = cellOk x := by unfold okAt; rw [h]; simp
theorem okAt_succ {xs : List Cel} {x y : Cel} {j : Nat} (h : xs[j + 1]? = some x) (h' : xs[j]? = some y) : okAt xs (j + 1) = (cellOk x && celBefore y x) := by
 have : okAt xs (j + 1) = (match xs[j + 1]? with
   | none => true
   | some x => cellOk x && (match xs[j]? with | none => true | some y => celBefore y x)) := rfl
 rw [this, h, h']
theorem cells_ok {xs : List Cel} (h : cellsOk xs = true) {j : Nat} {x : Cel} (hj : xs[j]? = some x) : cellOk x = true := by
 have h1 := cellsOk_at h (List.getElem?_eq_some_iff.1 hj).1
 unfold okAt at h1
 rw [hj] at h1
 simp only [Bool.and_eq_true] at h1
 exact h1.1
theorem cells_rise {xs : List Cel} (h : cellsOk xs = true) {i : Nat} {x : Cel} (hi : xs[i]? = some x) (d : Nat) : ∀ {y : Cel}, xs[i + d + 1]? = some y → Op.bytesLess (celKey x) (celKey y) = true := by
 induction d with
 | zero =>
   intro y hy
   have h1 := cellsOk_at h (List.getElem?_eq_some_iff.1 hy).1
   rw [Nat.add_zero] at hy h1
   rw [okAt_succ hy hi] at h1
   simp only [Bool.and_eq_true] at h1
   rw [ahead_less, ← before_key (cells_ok h hi) h1.1]
   exact h1.2
 | succ d ih =>
   intro y hy
   have hlt := (List.getElem?_eq_some_iff.1 hy).1
   obtain ⟨z, hz⟩ : ∃ z, xs[i + d + 1]? = some z := ⟨_, List.getElem?_eq_getElem (by omega)⟩
   have h1 := cellsOk_at h hlt
   rw [show i + (d + 1) + 1 = (i + d + 1) + 1 by omega] at hy h1
   rw [okAt_succ hy hz] at h1
   simp only [Bool.and_eq_true] at h1
   refine less_trans _ _ _ (ih hz) ?_
   rw [ahead_less, ← before_key (cells_ok h hz) h1.1]
   exact h1.2

def fits (r c : List UInt8) (t : Int) (x : Cel) : Bool := decide (x.row.data.toList = r) && decide (x.col.data.toList = c) && decide (x.time ≤ t)
def newest (xs : List Cel) (r c : List UInt8) (t : Int) : Option Cel := if cellsOk xs = true then xs.find? (fits r c t) else none
theorem fits_parts {r c : List UInt8} {t : Int} {x : Cel} (h : fits r c t x = true) : x.row.data.toList = r ∧ x.col.data.toList = c ∧ x.time ≤ t := by
 unfold fits at h
 simp only [Bool.and_eq_true, decide_eq_true_eq] at h
 exact ⟨h.1.1, h.1.2, h.2⟩
theorem find_at {xs : List Cel} {p : Cel → Bool} {i : Nat} {x : Cel} (hi : xs[i]? = some x) (hp : p x = true) (hb : ∀ (j : Nat) (y : Cel), j < i → xs[j]? = some y → p y = false) : xs.find? p = some x := by
 induction xs generalizing i with
 | nil => simp at hi
 | cons a l ih =>
   cases i with
   | zero => simp at hi; subst hi; simp [hp]
   | succ i =>
     rw [List.find?_cons_of_neg (by rw [hb 0 a (by omega) (by simp)]; simp)]
     exact ih (by simpa using hi) (fun j y hj hy => hb (j + 1) y (by omega) (by simpa using hy))
theorem find_no {xs : List Cel} {p : Cel → Bool} (hb : ∀ (j : Nat) (y : Cel), xs[j]? = some y → p y = false) : xs.find? p = none := by
 rw [List.find?_eq_none]
 intro x hx
 obtain ⟨j, hj⟩ := List.mem_iff_getElem?.1 hx
 rw [hb j x hj]
 simp
theorem newest_fits {xs : List Cel} {r c : List UInt8} {t : Int} {x : Cel} (h : newest xs r c t = some x) : x ∈ xs ∧ fits r c t x = true := by
 unfold newest at h
 cases hok : cellsOk xs
 · simp [hok] at h
 · rw [if_pos hok] at h
   exact ⟨List.mem_of_find?_eq_some h, List.find?_some h⟩
def shareOf (every i : Nat) (last k : List UInt8) : Nat := if i % every = 0 then 0 else shared last k
def sizeOf' (x : Cel) : Nat := 2 * x.value.size + (if x.gone then 1 else 0)
def entry (every i : Nat) (last : List UInt8) (x : Cel) : List UInt8 :=
 varB (shareOf every i last (celKey x)) ++ (varB ((celKey x).length - shareOf every i last (celKey x)) ++ (varB (sizeOf' x) ++ ((celKey x).drop (shareOf every i last (celKey x)) ++ x.value.data.toList)))
def entries (every : Nat) : Nat → List UInt8 → List Cel → List UInt8
 | _, _, [] => []
 | i, last, x :: r => entry every i last x ++ entries every (i + 1) (celKey x) r
def startsB (every : Nat) : Nat → Nat → List UInt8 → List Cel → List UInt8
 | _, _, _, [] => []
 | i, pos, last, x :: r => (if i % every = 0 then fixB pos 2 else []) ++ startsB every (i + 1) (pos + (entry every i last x).length) (celKey x) r
def blockOk (xs : List Cel) (every : Int) : Bool := decide (xs.length ≤ 50) && cellsOk xs && decide (1 ≤ every) && decide (every ≤ 16)
def block (xs : List Cel) (e : Nat) : List UInt8 := entries e 0 [] xs ++ (startsB e 0 0 [] xs ++ fixB ((startsB e 0 0 [] xs).length / 2) 2)
def putBlock (xs : List Cel) (every : Int) : List UInt8 := if blockOk xs every = true then block xs every.toNat else []

theorem var_first {a b : Nat} {r r' : List UInt8} (h : varB a ++ r = varB b ++ r') : a = b ∧ r = r' := by
 have h1 := varTake_var ((varB a).length + (varB b).length) a r (by omega)
 have h2 := varTake_var ((varB a).length + (varB b).length) b r' (by omega)
 rw [h, h2] at h1
 have e := var_inj (Option.some.inj h1)
 subst e
 exact ⟨rfl, List.append_cancel_left h⟩
theorem starts_len (every : Nat) : ∀ (xs : List Cel) (i pos : Nat) (last : List UInt8), (startsB every i pos last xs).length % 2 = 0 ∧ (startsB every i pos last xs).length ≤ 2 * xs.length
 | [], i, pos, last => by simp [startsB]
 | x :: r, i, pos, last => by
   have ih := starts_len every r (i + 1) (pos + (entry every i last x).length) (celKey x)
   unfold startsB
   rw [List.length_append, List.length_cons]
   split
   · rw [fix_length]; omega
   · simp; omega
theorem share_take (every i : Nat) (last k : List UInt8) : k.take (shareOf every i last k) = last.take (shareOf every i last k) := by
 unfold shareOf
 split
 · simp
 · exact (shared_take last k).symm
theorem share_le (every i : Nat) (last k : List UInt8) : shareOf every i last k ≤ k.length := by
 unfold shareOf
 split
 · omega
 · exact shared_le_right last k
theorem size_told {x y : Cel} (h : sizeOf' x = sizeOf' y) : x.gone = y.gone ∧ x.value.size = y.value.size := by
 unfold sizeOf' at h
 cases hx : x.gone <;> cases hy : y.gone <;> rw [hx, hy] at h <;> simp at h <;> first | exact ⟨rfl, by omega⟩ | omega
theorem entry_told {every i : Nat} {last : List UInt8} {x y : Cel} {r r' : List UInt8} (hx : cellOk x = true) (hy : cellOk y = true) (h : entry every i last x ++ r = entry every i last y ++ r') : x = y ∧ r = r' := by
 unfold entry at h
 simp only [List.append_assoc] at h
 obtain ⟨e1, h⟩ := var_first h
 obtain ⟨e2, h⟩ := var_first h
 obtain ⟨e3, h⟩ := var_first h
 have l1 := share_le every i last (celKey x)
 have l2 := share_le every i last (celKey y)
 have hlen : ((celKey x).drop (shareOf every i last (celKey x))).length = ((celKey y).drop (shareOf every i last (celKey y))).length := by rw [List.length_drop, List.length_drop]; exact e2
 obtain ⟨e4, h⟩ := List.append_inj h hlen
 obtain ⟨g1, g2⟩ := size_told e3
 obtain ⟨e5, e6⟩ := List.append_inj h (by simpa using g2)
 have hk : celKey x = celKey y := by
   rw [← List.take_append_drop (shareOf every i last (celKey x)) (celKey x), ← List.take_append_drop (shareOf every i last (celKey y)) (celKey y), share_take, share_take, e4, e1]
 unfold celKey at hk
 rw [keyOf_yes (cel_keyOk hx), keyOf_yes (cel_keyOk hy)] at hk
 obtain ⟨k1, k2, k3⟩ := key_inj (cel_keyOk hx) (cel_keyOk hy) hk
 refine ⟨?_, e6⟩
 obtain ⟨R, C, t, G, V⟩ := x
 obtain ⟨R', C', t', G', V'⟩ := y
 simp only at k1 k2 k3 g1 e5
 have ext : ∀ {a b : ByteArray}, a.data.toList = b.data.toList → a = b := fun {a b} h => by cases a; cases b; simp only at h; rw [Array.toList_inj.1 h]
 rw [ext k1, ext k2, k3, g1, ext e5]
theorem entries_told {every : Nat} : ∀ {xs ys : List Cel} {i : Nat} {last : List UInt8}, (∀ x ∈ xs, cellOk x = true) → (∀ y ∈ ys, cellOk y = true) → entries every i last xs = entries every i last ys → xs = ys
 | [], [], _, _, _, _, _ => rfl
 | [], y :: ys, i, last, _, _, h => by
   have := congrArg List.length h
   simp only [entries, entry, List.length_append, List.length_nil] at this
   have := var_ne (shareOf every i last (celKey y))
   have : 0 < (varB (shareOf every i last (celKey y))).length := List.length_pos_iff.2 this
   omega
 | x :: xs, [], i, last, _, _, h => by
   have := congrArg List.length h
   simp only [entries, entry, List.length_append, List.length_nil] at this
   have := var_ne (shareOf every i last (celKey x))
   have : 0 < (varB (shareOf every i last (celKey x))).length := List.length_pos_iff.2 this
   omega
 | x :: xs, y :: ys, i, last, hx, hy, h => by
   unfold entries at h
   obtain ⟨rfl, h2⟩ := entry_told (hx x (by simp)) (hy y (by simp)) h
   rw [entries_told (fun z hz => hx z (by simp [hz])) (fun z hz => hy z (by simp [hz])) h2]
theorem block_told {xs ys : List Cel} {e : Nat} (lx : xs.length ≤ 50) (ly : ys.length ≤ 50) (hx : cellsOk xs = true) (hy : cellsOk ys = true) (h : block xs e = block ys e) : xs = ys := by
 have ax : ∀ x ∈ xs, cellOk x = true := fun x hm => by obtain ⟨j, hj⟩ := List.mem_iff_getElem?.1 hm; exact cells_ok hx hj
 have ay : ∀ y ∈ ys, cellOk y = true := fun y hm => by obtain ⟨j, hj⟩ := List.mem_iff_getElem?.1 hm; exact cells_ok hy hj
 obtain ⟨sx, tx⟩ := starts_len e xs 0 0 []
 obtain ⟨sy, ty⟩ := starts_len e ys 0 0 []
 unfold block at h
 have hl := congrArg List.length h
 simp only [List.length_append, fix_length] at hl
 have h' : (entries e 0 [] xs ++ startsB e 0 0 [] xs) ++ fixB ((startsB e 0 0 [] xs).length / 2) 2 = (entries e 0 [] ys ++ startsB e 0 0 [] ys) ++ fixB ((startsB e 0 0 [] ys).length / 2) 2 := by simpa using h
 obtain ⟨h1, h2⟩ := List.append_inj h' (by rw [List.length_append, List.length_append]; omega)
 have h3 := fix_inj h2
 rw [Nat.mod_eq_of_lt (by omega), Nat.mod_eq_of_lt (by omega)] at h3
 obtain ⟨h4, _⟩ := List.append_inj h1 (by omega)
 exact entries_told ax ay h4
theorem block_ne (xs : List Cel) (e : Nat) : block xs e ≠ [] := by
 intro h
 have := congrArg List.length h
 simp [block, fix_length] at this
theorem putBlock_told {xs ys : List Cel} {e : Int} (h : putBlock xs e = putBlock ys e) (hne : putBlock xs e ≠ []) : xs = ys := by
 unfold putBlock at h hne
 cases h1 : blockOk xs e
 · rw [if_neg (by simp [h1])] at hne
   exact absurd rfl hne
 · rw [if_pos h1] at h
   cases h2 : blockOk ys e
   · rw [if_neg (by simp [h2])] at h
     exact absurd h (block_ne _ _)
   · rw [if_pos h2] at h
     unfold blockOk at h1 h2
     simp only [Bool.and_eq_true, decide_eq_true_eq] at h1 h2
     exact block_told h1.1.1.1 h2.1.1.1 h1.1.1.2 h2.1.1.2 h
theorem size_half (x : Cel) : sizeOf' x / 2 = x.value.size ∧ (sizeOf' x % 2 = 1 ↔ x.gone = true) := by
 unfold sizeOf'
 cases x.gone <;> simp <;> omega
theorem key_small {x : Cel} (h : cellOk x = true) : (celKey x).length ≤ 38 := by
 have h1 := cel_keyOk h
 obtain ⟨a1, a2, _⟩ := keyOk_parts h1
 have n1 := (name_parts a1).2.2
 have n2 := (name_parts a2).2.2
 unfold celKey
 rw [keyOf_yes h1, key_len]
 omega
theorem value_small {x : Cel} (h : cellOk x = true) : x.value.size ≤ 30 := by
 unfold cellOk at h
 simp only [Bool.and_eq_true, decide_eq_true_eq] at h
 exact h.1.2
theorem share_left (every i : Nat) (last k : List UInt8) : shareOf every i last k ≤ last.length := by
 unfold shareOf
 split
 · omega
 · exact shared_le_left last k
theorem entry_parts (every i : Nat) (last pre post : List UInt8) {x : Cel} (hx : cellOk x = true) {s m a1 a2 a3 : Nat} (hs : shareOf every i last (celKey x) = s) (hm : (celKey x).length - s = m)
   (h1 : pre.length + (varB s).length = a1) (h2 : a1 + (varB m).length = a2) (h3 : a2 + (varB (sizeOf' x)).length = a3) :
   getVarAt (pre ++ (entry every i last x ++ post)) pre.length = some (varB s) ∧ getVarAt (pre ++ (entry every i last x ++ post)) a1 = some (varB m) ∧ getVarAt (pre ++ (entry every i last x ++ post)) a2 = some (varB (sizeOf' x)) ∧
   ((pre ++ (entry every i last x ++ post)).drop a3).take m = (celKey x).drop s ∧ ((pre ++ (entry every i last x ++ post)).drop (a3 + m)).take x.value.size = x.value.data.toList ∧
   last.take s ++ (celKey x).drop s = celKey x ∧ s ≤ last.length ∧ a3 + m + x.value.size = pre.length + (entry every i last x).length := by
 have hk := key_small hx
 have hv := value_small hx
 have hle := share_le every i last (celKey x)
 have hll := share_left every i last (celKey x)
 have htk := share_take every i last (celKey x)
 rw [hs] at hle hll htk
 have hz : sizeOf' x ≤ 61 := by
   have := size_half x
   omega
 have hvl : x.value.data.toList.length = x.value.size := by simp
 have hdl : ((celKey x).drop s).length = m := by rw [List.length_drop]; exact hm
 have hE : entry every i last x = varB s ++ (varB m ++ (varB (sizeOf' x) ++ ((celKey x).drop s ++ x.value.data.toList))) := by
   unfold entry
   rw [hs, hm]
 refine ⟨?_, ?_, ?_, ?_, ?_, ?_, hll, ?_⟩
 · rw [hE]
   simp only [List.append_assoc]
   exact getVar_back s (by omega) pre _
 · have e : pre ++ (entry every i last x ++ post) = (pre ++ varB s) ++ (varB m ++ (varB (sizeOf' x) ++ ((celKey x).drop s ++ (x.value.data.toList ++ post)))) := by rw [hE]; simp
   rw [e, show (a1 : Int) = ((pre ++ varB s).length : Nat) by rw [List.length_append, h1]]
   exact getVar_back m (by omega) _ _
 · have e : pre ++ (entry every i last x ++ post) = (pre ++ varB s ++ varB m) ++ (varB (sizeOf' x) ++ ((celKey x).drop s ++ (x.value.data.toList ++ post))) := by rw [hE]; simp
   rw [e, show (a2 : Int) = ((pre ++ varB s ++ varB m).length : Nat) by rw [List.length_append, List.length_append, h1, h2]]
   exact getVar_back _ (by omega) _ _
 · have e : pre ++ (entry every i last x ++ post) = (pre ++ varB s ++ varB m ++ varB (sizeOf' x)) ++ ((celKey x).drop s ++ (x.value.data.toList ++ post)) := by rw [hE]; simp
   have hl : (pre ++ varB s ++ varB m ++ varB (sizeOf' x)).length = a3 := by rw [List.length_append, List.length_append, List.length_append, h1, h2, h3]
   rw [e, ← hl, List.drop_left, ← hdl, List.take_left]
 · have e : pre ++ (entry every i last x ++ post) = (pre ++ varB s ++ varB m ++ varB (sizeOf' x) ++ (celKey x).drop s) ++ (x.value.data.toList ++ post) := by rw [hE]; simp
   have hl : (pre ++ varB s ++ varB m ++ varB (sizeOf' x) ++ (celKey x).drop s).length = a3 + m := by rw [List.length_append, List.length_append, List.length_append, List.length_append, h1, h2, h3, hdl]
   rw [e, ← hl, List.drop_left, ← hvl, List.take_left]
 · rw [← htk, List.take_append_drop]
 · rw [hE]
   simp only [List.length_append, hdl, hvl]
   omega
theorem entries_at (every : Nat) : ∀ (xs : List Cel) (i : Nat) (last : List UInt8) (k : Nat) (x : Cel), xs[k]? = some x → ∃ pre post l, entries every i last xs = pre ++ (entry every (i + k) l x ++ post) ∧ pre = entries every i last (xs.take k) ∧ (k = 0 → l = last) ∧ (∀ y, 0 < k → xs[k - 1]? = some y → l = celKey y)
 | [], i, last, k, x, h => by simp at h
 | y :: ys, i, last, 0, x, h => by
   simp at h
   subst h
   exact ⟨[], entries every (i + 1) (celKey y) ys, last, by simp [entries], by simp [entries], fun _ => rfl, fun y h => by omega⟩
 | y :: ys, i, last, k + 1, x, h => by
   obtain ⟨pre, post, l, e1, e2, e3, e4⟩ := entries_at every ys (i + 1) (celKey y) k x (by simpa using h)
   refine ⟨entry every i last y ++ pre, post, l, ?_, ?_, fun h => by omega, fun z _ hz => ?_⟩
   · unfold entries
     rw [e1, show i + 1 + k = i + (k + 1) by omega]
     simp
   · rw [List.take_succ_cons, entries, e2]
   · cases k with
     | zero =>
       have hz' : y = z := by simpa using hz
       rw [e3 rfl, hz']
     | succ k => exact e4 z (by omega) (by simpa using hz)
def lastOf (last : List UInt8) (ys : List Cel) : List UInt8 := match ys.getLast? with
 | some y => celKey y
 | none => last
theorem lastOf_cons (last : List UInt8) (y : Cel) (ys : List Cel) : lastOf last (y :: ys) = lastOf (celKey y) ys := by
 unfold lastOf
 rw [List.getLast?_cons]
 cases ys.getLast? <;> rfl
theorem lastOf_snoc (last : List UInt8) (ys : List Cel) (x : Cel) : lastOf last (ys ++ [x]) = celKey x := by
 unfold lastOf
 simp
theorem entries_snoc (e : Nat) : ∀ (ys : List Cel) (i : Nat) (last : List UInt8) (x : Cel), entries e i last (ys ++ [x]) = entries e i last ys ++ entry e (i + ys.length) (lastOf last ys) x
 | [], i, last, x => by simp [entries, lastOf]
 | y :: ys, i, last, x => by
   rw [List.cons_append, entries, entries, entries_snoc e ys (i + 1) (celKey y) x, lastOf_cons, List.length_cons, show i + 1 + ys.length = i + (ys.length + 1) by omega, List.append_assoc]
theorem starts_snoc (e : Nat) : ∀ (ys : List Cel) (i pos : Nat) (last : List UInt8) (x : Cel), startsB e i pos last (ys ++ [x]) = startsB e i pos last ys ++ (if (i + ys.length) % e = 0 then fixB (pos + (entries e i last ys).length) 2 else [])
 | [], i, pos, last, x => by simp [entries, startsB]
 | y :: ys, i, pos, last, x => by
   rw [List.cons_append, startsB, startsB, starts_snoc e ys (i + 1) _ (celKey y) x, entries, List.length_cons, show i + 1 + ys.length = i + (ys.length + 1) by omega, List.append_assoc, List.length_append, Nat.add_assoc]
theorem take_cel {xs : List Cel} {i : Nat} {x : Cel} (h : xs[i]? = some x) : xs.take (i + 1) = xs.take i ++ [x] := by
 obtain ⟨hi, rfl⟩ := List.getElem?_eq_some_iff.1 h
 rw [List.take_succ_eq_append_getElem hi]
theorem take_len {xs : List Cel} {i : Nat} {x : Cel} (h : xs[i]? = some x) : (xs.take i).length = i := by
 have := (List.getElem?_eq_some_iff.1 h).1
 rw [List.length_take]
 omega
theorem entries_step (e : Nat) {xs : List Cel} {i : Nat} {x : Cel} (h : xs[i]? = some x) : entries e 0 [] (xs.take (i + 1)) = entries e 0 [] (xs.take i) ++ entry e i (lastOf [] (xs.take i)) x := by
 rw [take_cel h, entries_snoc, take_len h, Nat.zero_add]
theorem starts_step (e : Nat) {xs : List Cel} {i : Nat} {x : Cel} (h : xs[i]? = some x) : startsB e 0 0 [] (xs.take (i + 1)) = startsB e 0 0 [] (xs.take i) ++ (if i % e = 0 then fixB (entries e 0 [] (xs.take i)).length 2 else []) := by
 rw [take_cel h, starts_snoc, take_len h, Nat.zero_add, Nat.zero_add]
theorem last_step {xs : List Cel} {i : Nat} {x : Cel} (h : xs[i]? = some x) : lastOf [] (xs.take (i + 1)) = celKey x := by
 rw [take_cel h, lastOf_snoc]
theorem var_one {n : Nat} (h : n < 128) : (varB n).length = 1 := by rw [var_small h]; rfl
theorem size_small {x : Cel} (h : cellOk x = true) : sizeOf' x ≤ 61 := by
 have := size_half x
 have := value_small h
 omega
theorem entry_len {e i : Nat} {last : List UInt8} {x : Cel} (h : cellOk x = true) : (entry e i last x).length ≤ 71 := by
 have hk := key_small h
 have hv := value_small h
 have hz := size_small h
 have hs := share_le e i last (celKey x)
 unfold entry
 rw [List.length_append, List.length_append, List.length_append, List.length_append, List.length_drop, var_one (by omega), var_one (by omega), var_one (by omega)]
 simp
 omega
theorem putBlock_no {xs : List Cel} {every : Int} (h : blockOk xs every = false) : putBlock xs every = [] := by unfold putBlock; rw [if_neg (by simp [h])]
theorem putBlock_yes {xs : List Cel} {e : Nat} (h1 : xs.length ≤ 50) (h2 : cellsOk xs = true) (h3 : 1 ≤ e) (h4 : e ≤ 16) : putBlock xs (e : Int) = block xs e := by
 have h : blockOk xs (e : Int) = true := by
   unfold blockOk
   rw [h2]
   simp
   omega
 unfold putBlock
 rw [if_pos h, Int.toNat_natCast]
theorem block_no1 {xs : List Cel} {every : Int} (h : 50 < xs.length) : blockOk xs every = false := by
 unfold blockOk
 rw [show decide (xs.length ≤ 50) = false from decide_eq_false (by omega)]
 rfl
theorem block_no2 {xs : List Cel} {every : Int} (h : cellsOk xs = false) : blockOk xs every = false := by
 unfold blockOk
 rw [h]
 simp
theorem block_no3 {xs : List Cel} {every : Int} (h : every < 1 ∨ 16 < every) : blockOk xs every = false := by
 unfold blockOk
 rcases h with h | h
 · rw [show decide (1 ≤ every) = false from decide_eq_false (by omega)]; simp
 · rw [show decide (every ≤ 16) = false from decide_eq_false (by omega)]; simp
end Go.Proofs.YtkomnnijnggbpaaGreatDoor
/- Plain mathematics of packed texts: runs, copies, tokens. -/
namespace Go.Proofs.YtkomnnijnggbpaaGreatDoor
set_option linter.unusedVariables false

def runFrom (l : List UInt8) (i far : Nat) : Nat → Nat → Nat
 | n, 0 => n
 | n, f + 1 => if i + n < l.length ∧ l[i + n]? = l[i + n - far]? then runFrom l i far (n + 1) f else n
def runLen (l : List UInt8) (i far : Nat) : Nat := runFrom l i far 0 67
def bestTo (l : List UInt8) (i : Nat) : Nat → Nat × Nat
 | 0 => (0, 0)
 | f + 1 => if 4 ≤ runLen l i (f + 1) ∧ (bestTo l i f).1 < runLen l i (f + 1) then (runLen l i (f + 1), f + 1) else bestTo l i f
def copyAt (l : List UInt8) (i : Nat) : Nat × Nat := bestTo l i (min 255 i)

theorem runFrom_bd (l : List UInt8) (i far : Nat) : ∀ f n, n ≤ runFrom l i far n f ∧ runFrom l i far n f ≤ n + f
 | 0, n => by simp [runFrom]
 | f + 1, n => by
   rw [runFrom]
   split
   · have := runFrom_bd l i far f (n + 1); omega
   · omega
theorem runLen_le (l : List UInt8) (i far : Nat) : runLen l i far ≤ 67 := by have := runFrom_bd l i far 67 0; unfold runLen; omega
theorem runFrom_same (l : List UInt8) (i far : Nat) : ∀ f n j, n ≤ j → j < runFrom l i far n f → i + j < l.length ∧ l[i + j]? = l[i + j - far]?
 | 0, n, j, h1, h2 => by simp only [runFrom] at h2; omega
 | f + 1, n, j, h1, h2 => by
   rw [runFrom] at h2
   split at h2
   · rename_i hc
     by_cases e : j = n
     · subst e; exact hc
     · exact runFrom_same l i far f (n + 1) j (by omega) h2
   · omega
theorem runLen_same (l : List UInt8) (i far j : Nat) (h : j < runLen l i far) : i + j < l.length ∧ l[i + j]? = l[i + j - far]? := runFrom_same l i far 67 0 j (Nat.zero_le _) h
theorem runFrom_stop (l : List UInt8) (i far n f : Nat) (h : ¬ (i + n < l.length ∧ l[i + n]? = l[i + n - far]?)) : runFrom l i far n f = n := by
 cases f with
 | zero => rfl
 | succ f => rw [runFrom, if_neg h]

theorem bestTo_ok (l : List UInt8) (i : Nat) : ∀ f, (bestTo l i f = (0, 0)) ∨ (4 ≤ (bestTo l i f).1 ∧ 1 ≤ (bestTo l i f).2 ∧ (bestTo l i f).2 ≤ f ∧ (bestTo l i f).1 = runLen l i (bestTo l i f).2)
 | 0 => Or.inl rfl
 | f + 1 => by
   rw [bestTo]
   split
   · rename_i h
     exact Or.inr ⟨h.1, by simp, Nat.le_refl _, rfl⟩
   · rcases bestTo_ok l i f with h | ⟨h1, h2, h3, h4⟩
     · exact Or.inl h
     · exact Or.inr ⟨h1, h2, by omega, h4⟩
theorem copyAt_ok (l : List UInt8) (i : Nat) (h : 0 < (copyAt l i).1) : 4 ≤ (copyAt l i).1 ∧ (copyAt l i).1 ≤ 67 ∧ 1 ≤ (copyAt l i).2 ∧ (copyAt l i).2 ≤ 255 ∧ (copyAt l i).2 ≤ i ∧ i + (copyAt l i).1 ≤ l.length ∧ (copyAt l i).1 = runLen l i (copyAt l i).2 := by
 unfold copyAt at *
 rcases bestTo_ok l i (min 255 i) with h0 | ⟨h1, h2, h3, h4⟩
 · rw [h0] at h; simp at h
 · have h5 := runLen_le l i (bestTo l i (min 255 i)).2
   have h6 := runLen_same l i (bestTo l i (min 255 i)).2 ((bestTo l i (min 255 i)).1 - 1) (by omega)
   refine ⟨h1, by omega, h2, by omega, by omega, by omega, h4⟩
theorem copyAt_none (l : List UInt8) (i : Nat) (h : ¬ 0 < (copyAt l i).1) : copyAt l i = (0, 0) := by
 unfold copyAt at *
 rcases bestTo_ok l i (min 255 i) with h0 | ⟨h1, _⟩
 · exact h0
 · omega

structure Tok where
 text : List UInt8
 len : Nat
 far : Nat
deriving DecidableEq
def flush (t : List UInt8) : List Tok := if t = [] then [] else [⟨t, 0, 0⟩]
def toksFrom (l : List UInt8) (i : Nat) (t : List UInt8) : List Tok :=
 if h : i < l.length then
   if hc : 0 < (copyAt l i).1 then flush t ++ ⟨[], (copyAt l i).1, (copyAt l i).2⟩ :: toksFrom l (i + (copyAt l i).1) []
   else if t.length = 127 then ⟨t, 0, 0⟩ :: toksFrom l (i + 1) [l[i]]
   else toksFrom l (i + 1) (t ++ [l[i]])
 else flush t
termination_by l.length - i
def tokens (l : List UInt8) : List Tok := if 2000 < l.length then [] else toksFrom l 0 []

def encTok (t : Tok) : List UInt8 := if 0 < t.len then [UInt8.ofNat (124 + t.len), UInt8.ofNat t.far] else UInt8.ofNat t.text.length :: t.text
def compress (l : List UInt8) : List UInt8 := (tokens l).flatMap encTok

theorem flush_enc (t : List UInt8) : ((flush t).flatMap encTok).length ≤ t.length + 1 := by
 unfold flush
 split
 · simp
 · simp [encTok]
theorem enc_len (l : List UInt8) : ∀ (d i : Nat) (t : List UInt8), l.length - i ≤ d → ((toksFrom l i t).flatMap encTok).length ≤ t.length + 1 + 2 * (l.length - i) := by
 intro d
 induction d with
 | zero =>
   intro i t hd
   rw [toksFrom, dif_neg (by omega)]
   have := flush_enc t; omega
 | succ d ih =>
   intro i t hd
   rw [toksFrom]
   split
   · rename_i hi
     split
     · rename_i hc
       have hk := copyAt_ok l i hc
       have h1 := ih (i + (copyAt l i).1) [] (by omega)
       have h2 := flush_enc t
       have h3 : (encTok ⟨[], (copyAt l i).1, (copyAt l i).2⟩).length = 2 := by simp [encTok, hc]
       rw [List.flatMap_append, List.length_append, List.flatMap_cons, List.length_append, h3]
       simp only [List.length_nil] at h1
       omega
     · split
       · rename_i ht
         have h1 := ih (i + 1) [l[i]] (by omega)
         have h3 : (encTok ⟨t, 0, 0⟩).length = t.length + 1 := by simp [encTok]
         rw [List.flatMap_cons, List.length_append, h3]
         simp only [List.length_singleton] at h1
         omega
       · have h1 := ih (i + 1) (t ++ [l[i]]) (by omega)
         rw [List.length_append, List.length_singleton] at h1
         omega
   · have := flush_enc t; omega
theorem compress_len (l : List UInt8) : (compress l).length ≤ 4001 := by
 unfold compress tokens
 split
 · simp
 · have := enc_len l l.length 0 [] (by omega)
   simp only [List.length_nil] at this
   omega

def TokOk (y : Tok) : Prop := (y.len = 0 ∧ y.far = 0 ∧ 1 ≤ y.text.length ∧ y.text.length ≤ 127) ∨ (y.text = [] ∧ 4 ≤ y.len ∧ y.len ≤ 67 ∧ 1 ≤ y.far ∧ y.far ≤ 255)
theorem flush_ok (t : List UInt8) (ht : t.length ≤ 127) : ∀ y ∈ flush t, TokOk y := by
 intro y hy
 unfold flush at hy
 split at hy
 · cases hy
 · rename_i hne
   simp only [List.mem_singleton] at hy
   subst hy
   exact Or.inl ⟨rfl, rfl, List.length_pos_iff.2 hne, ht⟩
theorem toks_ok (l : List UInt8) : ∀ (d i : Nat) (t : List UInt8), l.length - i ≤ d → t.length ≤ 127 → ∀ y ∈ toksFrom l i t, TokOk y := by
 intro d
 induction d with
 | zero =>
   intro i t hd ht y hy
   rw [toksFrom, dif_neg (by omega)] at hy
   exact flush_ok t ht y hy
 | succ d ih =>
   intro i t hd ht y hy
   rw [toksFrom] at hy
   split at hy
   · rename_i hi
     split at hy
     · rename_i hc
       have hk := copyAt_ok l i hc
       rcases List.mem_append.1 hy with hy | hy
       · exact flush_ok t ht y hy
       · rcases List.mem_cons.1 hy with rfl | hy
         · exact Or.inr ⟨rfl, hk.1, hk.2.1, hk.2.2.1, hk.2.2.2.1⟩
         · exact ih _ [] (by omega) (by simp) y hy
     · split at hy
       · rename_i h127
         rcases List.mem_cons.1 hy with rfl | hy
         · exact Or.inl ⟨rfl, rfl, by simp only; omega, by simp only; omega⟩
         · exact ih _ _ (by omega) (by simp) y hy
       · exact ih _ _ (by omega) (by rw [List.length_append, List.length_singleton]; omega) y hy
   · exact flush_ok t ht y hy
theorem tokens_ok (l : List UInt8) : ∀ y ∈ tokens l, TokOk y := by
 unfold tokens
 split
 · intro y hy; cases hy
 · exact toks_ok l l.length 0 [] (by omega) (by simp)

def copyOut (out : List UInt8) (far : Nat) : Nat → List UInt8
 | 0 => out
 | n + 1 => copyOut out far n ++ [(copyOut out far n).getD ((copyOut out far n).length - far) 0]
theorem copyOut_len (out : List UInt8) (far n : Nat) : (copyOut out far n).length = out.length + n := by
 induction n with
 | zero => rfl
 | succ n ih => rw [copyOut, List.length_append, List.length_singleton, ih]; omega
def decFrom (s : List UInt8) (i : Nat) (out : List UInt8) : Option (List UInt8) :=
 if h : i < s.length then
   if hb : 1 ≤ s[i].toNat ∧ s[i].toNat ≤ 127 then
     if i + 1 + s[i].toNat ≤ s.length then decFrom s (i + 1 + s[i].toNat) (out ++ (s.drop (i + 1)).take s[i].toNat) else none
   else if s[i].toNat = 0 ∨ s.length ≤ i + 1 ∨ (s.getD (i + 1) 0).toNat = 0 ∨ out.length < (s.getD (i + 1) 0).toNat ∨ 2000 < out.length then none
   else decFrom s (i + 2) (copyOut out (s.getD (i + 1) 0).toNat (s[i].toNat - 124))
 else some out
termination_by s.length - i
def expandB (s : List UInt8) : Option (List UInt8) := match decFrom s 0 [] with
 | some out => if compress out = s then some out else none
 | none => none
def expand1 (s : List UInt8) : List UInt8 := (expandB s).getD []
def expand2 (s : List UInt8) : Bool := (expandB s).isSome
end Go.Proofs.YtkomnnijnggbpaaGreatDoor
/- Plain mathematics of packed texts: what is packed comes back. -/
namespace Go.Proofs.YtkomnnijnggbpaaGreatDoor
set_option linter.unusedVariables false

def grow (out : List UInt8) (y : Tok) : List UInt8 := copyOut (out ++ y.text) y.far y.len
def mkAll (out : List UInt8) : List Tok → List UInt8
 | [] => out
 | y :: ys => mkAll (grow out y) ys
def Fits : List UInt8 → List Tok → Prop
 | _, [] => True
 | out, y :: ys => TokOk y ∧ (y.len = 0 ∨ y.far ≤ out.length) ∧ out.length ≤ 2000 ∧ Fits (grow out y) ys

theorem getD_take (l : List UInt8) (k j : Nat) (h : j < k) : (l.take k).getD j 0 = l.getD j 0 := by
 simp only [List.getD_eq_getElem?_getD, List.getElem?_take, if_pos h]
theorem take_more (l : List UInt8) (k : Nat) (h : k < l.length) : l.take (k + 1) = l.take k ++ [l.getD k 0] := by
 rw [List.take_add_one, List.getElem?_eq_getElem h, List.getD_eq_getElem?_getD, List.getElem?_eq_getElem h]; rfl
theorem copy_makes (l : List UInt8) (i f : Nat) (hf : 1 ≤ f) (hfi : f ≤ i) : ∀ n, n ≤ runLen l i f → i ≤ l.length → copyOut (l.take i) f n = l.take (i + n)
 | 0, _, _ => rfl
 | n + 1, h, hi => by
   have hs := runLen_same l i f n (by omega)
   have ih := copy_makes l i f hf hfi n (by omega) hi
   have hl : (l.take (i + n)).length = i + n := by rw [List.length_take]; omega
   rw [copyOut, ih, hl, getD_take _ _ _ (by omega), show i + (n + 1) = i + n + 1 by omega, take_more l (i + n) hs.1]
   simp only [List.getD_eq_getElem?_getD, hs.2]

theorem grow_text (out t : List UInt8) : grow out ⟨t, 0, 0⟩ = out ++ t := rfl
theorem fits_flush (out t : List UInt8) (ys : List Tok) (ht : t.length ≤ 127) (ho : out.length ≤ 2000) (h : Fits (out ++ t) ys) : Fits out (flush t ++ ys) ∧ mkAll out (flush t ++ ys) = mkAll (out ++ t) ys := by
 unfold flush
 split
 · rename_i e
   subst e
   simp at *
   exact h
 · rename_i e
   refine ⟨⟨Or.inl ⟨rfl, rfl, List.length_pos_iff.2 e, ht⟩, Or.inl rfl, ho, h⟩, rfl⟩
theorem toks_make (l : List UInt8) (hl : l.length ≤ 2000) : ∀ (d i : Nat) (t out : List UInt8), l.length - i ≤ d → i ≤ l.length → t.length ≤ 127 → out ++ t = l.take i → Fits out (toksFrom l i t) ∧ mkAll out (toksFrom l i t) = l := by
 intro d
 induction d with
 | zero =>
   intro i t out hd hi ht ho
   have hlen := congrArg List.length ho
   simp only [List.length_append, List.length_take] at hlen
   rw [toksFrom, dif_neg (by omega)]
   have h := fits_flush out t [] ht (by omega) trivial
   rw [List.append_nil] at h
   refine ⟨h.1, h.2.trans ?_⟩
   rw [ho, show i = l.length by omega]
   exact List.take_length
 | succ d ih =>
   intro i t out hd hi ht ho
   have hlen := congrArg List.length ho
   simp only [List.length_append, List.length_take] at hlen
   rw [toksFrom]
   split
   · rename_i hil
     split
     · rename_i hc
       have hk := copyAt_ok l i hc
       have hm := copy_makes l i (copyAt l i).2 hk.2.2.1 hk.2.2.2.2.1 (copyAt l i).1 (Nat.le_of_eq hk.2.2.2.2.2.2) hi
       have h1 := ih (i + (copyAt l i).1) [] (l.take (i + (copyAt l i).1)) (by omega) hk.2.2.2.2.2.1 (by simp) (by simp)
       have hg : grow (out ++ t) ⟨[], (copyAt l i).1, (copyAt l i).2⟩ = l.take (i + (copyAt l i).1) := by
         unfold grow; rw [List.append_nil, ho]; exact hm
       have h2 := fits_flush out t (⟨[], (copyAt l i).1, (copyAt l i).2⟩ :: toksFrom l (i + (copyAt l i).1) []) ht (by omega) ⟨Or.inr ⟨rfl, hk.1, hk.2.1, hk.2.2.1, hk.2.2.2.1⟩, Or.inr (by rw [ho, List.length_take]; simp only; omega), by rw [ho, List.length_take]; omega, by rw [hg]; exact h1.1⟩
       refine ⟨h2.1, h2.2.trans ?_⟩
       rw [mkAll, hg]
       exact h1.2
     · have hone : l.take (i + 1) = l.take i ++ [l[i]] := by rw [take_more l i hil, List.getD_eq_getElem?_getD, List.getElem?_eq_getElem hil]; rfl
       split
       · rename_i h127
         have h1 := ih (i + 1) [l[i]] (l.take i) (by omega) (by omega) (by simp) hone.symm
         rw [← ho] at h1
         exact ⟨⟨Or.inl ⟨rfl, rfl, by simp only; omega, ht⟩, Or.inl rfl, by omega, h1.1⟩, h1.2⟩
       · exact ih (i + 1) (t ++ [l[i]]) out (by omega) (by omega) (by rw [List.length_append, List.length_singleton]; omega) (by rw [← List.append_assoc, ho, hone])
   · have h := fits_flush out t [] ht (by omega) trivial
     rw [List.append_nil] at h
     refine ⟨h.1, h.2.trans ?_⟩
     rw [ho, show i = l.length by omega]
     exact List.take_length
theorem tokens_make (l : List UInt8) (hl : l.length ≤ 2000) : Fits [] (tokens l) ∧ mkAll [] (tokens l) = l := by
 unfold tokens
 rw [if_neg (by omega)]
 exact toks_make l hl l.length 0 [] [] (by omega) (by omega) (by simp) (by simp)

theorem ofNat_small {n : Nat} (h : n < 256) : (UInt8.ofNat n).toNat = n := by simp [UInt8.toNat_ofNat']; omega
theorem dec_tok (pre suf out : List UInt8) (y : Tok) (hy : TokOk y) (hf : y.len = 0 ∨ y.far ≤ out.length) (ho : out.length ≤ 2000) : decFrom (pre ++ (encTok y ++ suf)) pre.length out = decFrom (pre ++ (encTok y ++ suf)) (pre.length + (encTok y).length) (grow out y) := by
 rcases hy with ⟨h1, h2, h3, h4⟩ | ⟨h1, h2, h3, h4, h5⟩
 · obtain ⟨t, n, f⟩ := y
   simp only at h1 h2 h3 h4
   subst h1 h2
   have e : encTok ⟨t, 0, 0⟩ = UInt8.ofNat t.length :: t := by simp [encTok]
   rw [e]
   have hlt : pre.length < (pre ++ (UInt8.ofNat t.length :: t ++ suf)).length := by simp
   have hb : (pre ++ (UInt8.ofNat t.length :: t ++ suf))[pre.length].toNat = t.length := by
     rw [List.getElem_append_right (Nat.le_refl _)]
     simp only [Nat.sub_self, List.cons_append, List.getElem_cons_zero]
     exact ofNat_small (by omega)
   rw [decFrom, dif_pos hlt, dif_pos (by rw [hb]; omega), if_pos (by rw [hb]; simp; omega)]
   rw [hb]
   congr 1
   · simp; omega
   · rw [grow_text]
     congr 1
     rw [List.drop_append, List.drop_eq_nil_of_le (show pre.length ≤ pre.length + 1 by omega)]
     simp
 · obtain ⟨t, n, f⟩ := y
   simp only at h1 h2 h3 h4 h5 hf
   subst h1
   have e : encTok ⟨[], n, f⟩ = [UInt8.ofNat (124 + n), UInt8.ofNat f] := by simp [encTok]; omega
   rw [e]
   have hlt : pre.length < (pre ++ ([UInt8.ofNat (124 + n), UInt8.ofNat f] ++ suf)).length := by simp
   have hb : (pre ++ ([UInt8.ofNat (124 + n), UInt8.ofNat f] ++ suf))[pre.length].toNat = 124 + n := by
     rw [List.getElem_append_right (Nat.le_refl _)]
     simp only [Nat.sub_self, List.cons_append, List.getElem_cons_zero]
     exact ofNat_small (by omega)
   have hb2 : ((pre ++ ([UInt8.ofNat (124 + n), UInt8.ofNat f] ++ suf)).getD (pre.length + 1) 0).toNat = f := by
     rw [List.getD_eq_getElem?_getD, List.getElem?_append_right (by omega), show pre.length + 1 - pre.length = 1 by omega]
     simp only [List.cons_append, List.getElem?_cons_succ, List.getElem?_cons_zero, Option.getD_some]
     exact ofNat_small (by omega)
   rw [decFrom, dif_pos hlt, dif_neg (by rw [hb]; omega), if_neg (by rw [hb, hb2]; simp; omega), hb, hb2]
   rw [show 124 + n - 124 = n by omega]
   unfold grow
   simp
theorem dec_toks (suf : List UInt8) : ∀ (ys : List Tok) (pre out : List UInt8), Fits out ys → decFrom (pre ++ (ys.flatMap encTok ++ suf)) pre.length out = decFrom (pre ++ (ys.flatMap encTok ++ suf)) (pre.length + (ys.flatMap encTok).length) (mkAll out ys)
 | [], pre, out, _ => by simp [mkAll]
 | y :: ys, pre, out, h => by
   obtain ⟨h1, h2, h3, h4⟩ := h
   have ih := dec_toks suf ys (pre ++ encTok y) (grow out y) h4
   have e : pre ++ ((y :: ys).flatMap encTok ++ suf) = pre ++ (encTok y ++ (ys.flatMap encTok ++ suf)) := by simp
   rw [e, dec_tok pre _ out y h1 h2 h3]
   rw [List.append_assoc, List.length_append] at ih
   rw [ih, mkAll]
   congr 1
   simp; omega
theorem dec_compress (l : List UInt8) (hl : l.length ≤ 2000) : decFrom (compress l) 0 [] = some l := by
 obtain ⟨h1, h2⟩ := tokens_make l hl
 have h := dec_toks [] (tokens l) [] [] h1
 simp only [List.nil_append, List.append_nil, List.length_nil, Nat.zero_add] at h
 unfold compress
 rw [h, h2, decFrom, dif_neg (by omega)]
theorem expand_compress (l : List UInt8) (hl : l.length ≤ 2000) : expand1 (compress l) = l ∧ expand2 (compress l) = true := by
 unfold expand1 expand2 expandB
 rw [dec_compress l hl]
 simp
theorem encTok_len (y : Tok) : 1 ≤ (encTok y).length := by unfold encTok; split <;> simp
theorem expand_ok (s : List UInt8) (h : expand2 s = true) : compress (expand1 s) = s ∧ (expand1 s).length ≤ 2000 := by
 unfold expand2 expandB at h
 unfold expand1 expandB
 cases hd : decFrom s 0 [] with
 | none => rw [hd] at h; cases h
 | some out =>
   rw [hd] at h
   by_cases hc : compress out = s
   · simp only [if_pos hc, Option.getD_some]
     refine ⟨hc, ?_⟩
     by_cases hl : out.length ≤ 2000
     · exact hl
     · have : compress out = [] := by unfold compress tokens; rw [if_pos (by omega)]; rfl
       rw [hc] at this
       subst this
       rw [decFrom, dif_neg (by simp)] at hd
       cases hd
       simp
   · simp [if_neg hc] at h
theorem expand_no (s : List UInt8) (h : expand2 s = false) : expand1 s = [] := by
 unfold expand2 at h
 unfold expand1
 cases hd : expandB s with
 | none => rfl
 | some out => rw [hd] at h; cases h
end Go.Proofs.YtkomnnijnggbpaaGreatDoor
/- Plain mathematics of sums of 32 bits: one step turns linearly, nothing but nought goes to nought; some bits in a row that were turned are told. -/
namespace Go.Proofs.YtkomnnijnggbpaaGreatDoor
set_option linter.unusedVariables false

def poly : Nat := 2197175160
def stp (x : Nat) : Nat := (x / 2) ^^^ (if x % 2 = 1 then poly else 0)
def stN : Nat → Nat → Nat
 | 0, x => x
 | n + 1, x => stN n (stp x)

theorem st_xor (x y : Nat) : stp (x ^^^ y) = stp x ^^^ stp y := by
 unfold stp
 have h1 : (x ^^^ y) / 2 = x / 2 ^^^ y / 2 := by
   have := Nat.xor_div_two_pow (a := x) (b := y) (n := 1); simpa using this
 have h2 : (x ^^^ y) % 2 = (x % 2) ^^^ (y % 2) := by
   have := Nat.xor_mod_two_pow (a := x) (b := y) (n := 1); simpa using this
 rw [h1, h2]
 have ax : x % 2 = 0 ∨ x % 2 = 1 := by omega
 have ay : y % 2 = 0 ∨ y % 2 = 1 := by omega
 rcases ax with ax | ax <;> rcases ay with ay | ay <;> simp [ax, ay]
 · exact Nat.xor_assoc _ _ _
 · rw [Nat.xor_assoc, Nat.xor_comm (y / 2), ← Nat.xor_assoc]
 · rw [Nat.xor_comm (y / 2) poly, ← Nat.xor_assoc, Nat.xor_assoc (x / 2), Nat.xor_self, Nat.xor_zero]

theorem stN_xor (n : Nat) : ∀ x y, stN n (x ^^^ y) = stN n x ^^^ stN n y := by
 induction n with
 | zero => intro x y; rfl
 | succ n ih => intro x y; simp only [stN]; rw [st_xor, ih]

theorem st_two (z : Nat) : stp (2 * z) = z := by
 unfold stp
 have h1 : 2 * z / 2 = z := by omega
 have h2 : 2 * z % 2 = 0 := by omega
 rw [h1, h2]; simp

theorem stN_pow (n : Nat) : ∀ z, stN n (2 ^ n * z) = z := by
 induction n with
 | zero => intro z; simp [stN]
 | succ n ih =>
   intro z
   simp only [stN]
   have : 2 ^ (n + 1) * z = 2 * (2 ^ n * z) := by rw [Nat.pow_succ]; rw [Nat.mul_comm (2 ^ n) 2, Nat.mul_assoc]
   rw [this, st_two, ih]

theorem stN_add (m n : Nat) : ∀ x, stN (m + n) x = stN n (stN m x) := by
 induction m with
 | zero => intro x; simp [stN]
 | succ m ih => intro x; rw [Nat.succ_add]; simp only [stN]; exact ih _

theorem st_lt {x : Nat} (h : x < 4294967296) : stp x < 4294967296 := by
 unfold stp
 have : (x / 2) ^^^ (if x % 2 = 1 then poly else 0) < 2 ^ 32 := by
   apply Nat.xor_lt_two_pow
   · omega
   · split <;> simp [poly]
 exact this

theorem stN_lt (n : Nat) : ∀ {x : Nat}, x < 4294967296 → stN n x < 4294967296 := by
 induction n with
 | zero => intro x h; exact h
 | succ n ih => intro x h; exact ih (st_lt h)

theorem xor_eq_zero {a b : Nat} (h : a ^^^ b = 0) : a = b := by
 have : a ^^^ b ^^^ b = 0 ^^^ b := by rw [h]
 rw [Nat.xor_assoc, Nat.xor_self, Nat.xor_zero, Nat.zero_xor] at this
 exact this

theorem st_ne {x : Nat} (h : x < 4294967296) (h0 : x ≠ 0) : stp x ≠ 0 := by
 unfold stp
 intro e
 have := xor_eq_zero e
 split at this
 · unfold poly at this; omega
 · omega

theorem stN_ne (n : Nat) : ∀ {x : Nat}, x < 4294967296 → x ≠ 0 → stN n x ≠ 0 := by
 induction n with
 | zero => intro x h h0; exact h0
 | succ n ih => intro x h h0; exact ih (st_lt h) (st_ne h h0)

theorem split_bits (n x : Nat) : x = (x % 2 ^ n) ^^^ (2 ^ n * (x / 2 ^ n)) := by
 apply Nat.eq_of_testBit_eq
 intro i
 rw [Nat.testBit_xor, Nat.testBit_mod_two_pow, Nat.testBit_two_pow_mul, Nat.testBit_div_two_pow]
 by_cases h : i < n
 · have : ¬ i ≥ n := by omega
   simp [h, this]
 · have h' : n ≤ i := by omega
   have e : i - n + n = i := by omega
   simp [h, h', e]

theorem stN_split (n x : Nat) : stN n x = stN n (x % 2 ^ n) ^^^ x / 2 ^ n := by
 have h := split_bits n x
 have e := congrArg (stN n) h
 rw [stN_xor, stN_pow] at e
 exact e

def crcB (x : Nat) (c : UInt8) : Nat := stN 8 (x ^^^ c.toNat)
theorem crcB_table (x : Nat) (c : UInt8) : crcB x c = x / 256 ^^^ stN 8 ((x % 256) ^^^ c.toNat) := by
 unfold crcB
 rw [stN_split 8]
 have hc := c.toNat_lt
 have e1 : (x ^^^ c.toNat) % 2 ^ 8 = (x % 256) ^^^ c.toNat := by
   rw [Nat.xor_mod_two_pow]
   congr 1
   exact Nat.mod_eq_of_lt (by simpa using hc)
 have e2 : (x ^^^ c.toNat) / 2 ^ 8 = x / 256 := by
   rw [Nat.xor_div_two_pow]
   have : c.toNat / 2 ^ 8 = 0 := Nat.div_eq_of_lt (by simpa using hc)
   rw [this, Nat.xor_zero]
 rw [e1, e2, Nat.xor_comm]

theorem crcB_lt {x : Nat} {c : UInt8} (h : x < 4294967296) : crcB x c < 4294967296 := by
 unfold crcB
 apply stN_lt
 have hc := c.toNat_lt
 have : x ^^^ c.toNat < 2 ^ 32 := Nat.xor_lt_two_pow h (by omega)
 exact this

def crcF (x : Nat) (l : List UInt8) : Nat := l.foldl crcB x
theorem crcF_lt (l : List UInt8) : ∀ {x : Nat}, x < 4294967296 → crcF x l < 4294967296 := by
 induction l with
 | nil => intro x h; exact h
 | cons c l ih => intro x h; exact ih (crcB_lt h)
theorem crcF_snoc (x : Nat) (l : List UInt8) (c : UInt8) : crcF x (l ++ [c]) = crcB (crcF x l) c := by simp [crcF]

def crc (l : List UInt8) : Nat := 4294967295 - crcF 4294967295 l
theorem crc_lt (l : List UInt8) : crc l < 4294967296 := by unfold crc; omega
theorem crc_inj {l m : List UInt8} (h : crc l = crc m) : crcF 4294967295 l = crcF 4294967295 m := by
 have h1 := crcF_lt l (x := 4294967295) (by omega)
 have h2 := crcF_lt m (x := 4294967295) (by omega)
 unfold crc at h
 omega

def Bent (E : Nat) : List UInt8 → List UInt8 → Prop
 | [], [] => True
 | a :: l, b :: m => b.toNat = a.toNat ^^^ (E % 256) ∧ Bent (E / 256) l m
 | _, _ => False

theorem bent_sum (l : List UInt8) : ∀ (m : List UInt8) (E d x : Nat), Bent E l m →
   ∃ d', crcF (x ^^^ d) m = crcF x l ^^^ d' ∧ d' ^^^ E / 2 ^ (8 * l.length) = stN (8 * l.length) (d ^^^ E) := by
 induction l with
 | nil =>
   intro m E d x h
   cases m with
   | nil => exact ⟨d, rfl, by simp [stN]⟩
   | cons => cases h
 | cons a l ih =>
   intro m E d x h
   cases m with
   | nil => cases h
   | cons b m =>
     obtain ⟨h1, h2⟩ := h
     have e : crcB (x ^^^ d) b = crcB x a ^^^ stN 8 (d ^^^ E % 256) := by
       unfold crcB
       rw [h1, ← stN_xor]
       congr 1
       ac_rfl
     obtain ⟨d', h3, h4⟩ := ih m (E / 256) (stN 8 (d ^^^ E % 256)) (crcB x a) h2
     refine ⟨d', ?_, ?_⟩
     · simp only [crcF, List.foldl_cons] at h3 ⊢
       rw [e]; exact h3
     · have p1 : E / 2 ^ (8 * (a :: l).length) = E / 256 / 2 ^ (8 * l.length) := by
         rw [Nat.div_div_eq_div_mul]
         congr 1
         rw [List.length_cons, Nat.mul_add, Nat.pow_add, Nat.mul_comm]
       rw [p1, h4]
       have p2 : 8 * (a :: l).length = 8 + 8 * l.length := by rw [List.length_cons]; omega
       rw [p2, stN_add]
       congr 1
       have := stN_split 8 E
       rw [stN_xor, stN_xor, this, Nat.xor_assoc]

theorem bent_told (l m : List UInt8) (f k : Nat) (h : Bent (2 ^ f * k) l m) (hf : f ≤ 8 * l.length) (h0 : k % 2 ^ (8 * l.length - f) ≠ 0) (hk : k < 4294967296) : crc m ≠ crc l := by
 intro e
 have e1 := crc_inj e
 obtain ⟨d', h1, h2⟩ := bent_sum l m _ 0 4294967295 h
 rw [Nat.xor_zero] at h1
 rw [Nat.zero_xor] at h2
 have hd : d' = 0 := by
   rw [h1] at e1
   have : crcF 4294967295 l ^^^ (crcF 4294967295 l ^^^ d') = crcF 4294967295 l ^^^ crcF 4294967295 l := by rw [e1]
   rw [← Nat.xor_assoc, Nat.xor_self, Nat.zero_xor] at this
   exact this
 rw [hd, Nat.zero_xor, stN_split] at h2
 have h3 : stN (8 * l.length) ((2 ^ f * k) % 2 ^ (8 * l.length)) = 0 := by
   have : ∀ a b : Nat, b = a ^^^ b → a = 0 := by
     intro a b h
     have h' : b ^^^ b = a ^^^ b ^^^ b := by rw [← h]
     rw [Nat.xor_assoc, Nat.xor_self, Nat.xor_zero] at h'
     exact h'.symm
   exact this _ _ h2
 have p : 2 ^ (8 * l.length) = 2 ^ f * 2 ^ (8 * l.length - f) := by rw [← Nat.pow_add]; congr 1; omega
 rw [p, Nat.mul_mod_mul_left] at h3
 have q : 8 * l.length = f + (8 * l.length - f) := by omega
 rw [q, stN_add, stN_pow] at h3
 have e2 : f + (8 * l.length - f) - f = 8 * l.length - f := by omega
 rw [e2] at h3
 exact stN_ne _ (Nat.lt_of_le_of_lt (Nat.mod_le _ _) hk) h0 h3
end Go.Proofs.YtkomnnijnggbpaaGreatDoor
/- Small facts that the other texts share: endings, bytes of a text, new blocks. -/
namespace Go.Proofs.YtkomnnijnggbpaaGreatDoor
open Go.RowKit
set_option linter.unusedVariables false

theorem ret_int {k : IntKind} {a b : Int} (h : a = b) : Ending.returned (.int k a) = .returned (.int k b) := by rw [h]
theorem ret_bool {a b : Bool} (h : a = b) : Ending.returned (.bool a) = .returned (.bool b) := by rw [h]
theorem ret_text {a b : List UInt8} (h : a = b) : Ending.returned (.string ⟨a.toArray⟩) = .returned (.string ⟨b.toArray⟩) := by rw [h]

theorem byte_at (s : ByteArray) (k : Nat) (h : k < s.size) : s.data.toList[k]? = some s[k] := by
 rw [List.getElem?_eq_getElem (by simpa using h)]; rfl
theorem take_snoc (s : ByteArray) (k : Nat) (h : k < s.size) : s.data.toList.take (k + 1) = s.data.toList.take k ++ [s[k]] := by
 rw [List.take_succ_eq_append_getElem (by simpa using h)]; rfl
theorem bytes_ext {a b : ByteArray} (h : a.data.toList = b.data.toList) : a = b := by
 cases a; cases b; simp only at h; rw [Array.toList_inj.1 h]

theorem bne_of_beq {a b : Int} (h : (a == b) = true) : (a != b) = false := by simpa using h
theorem bne_of_nbeq {a b : Int} (h : (a == b) = false) : (a != b) = true := by simpa using h

theorem set_block {w : World} {p k T : Nat} {cs : Array Value} {fz : Nat × Nat} (v : Value) (h : w.heap[p]? = some (.cells cs T fz)) : (w.setCell ⟨p, k, none⟩ v).heap[p]? = some (.cells (cs.setIfInBounds k v) T fz) := by
 simp [World.setCell, Array.getElem?_modify, h]
theorem grown_set (w : World) (p k : Nat) (v : Value) : w.grownBy (w.setCell ⟨p, k, none⟩ v) (some p) :=
 ⟨rfl, rfl, rfl, by simp [World.setCell], fun j hj hne => Below.heap_setCell _ _ _ _ (fun e => hne (by rw [e]))⟩
theorem grown_drewN (w : World) (n : Nat) (row : Option Nat) : w.grownBy (w.drewN n) row := ⟨rfl, rfl, rfl, Nat.le_refl _, fun _ _ _ => rfl⟩
theorem grown_refl (w : World) (row : Option Nat) : w.grownBy w row := ⟨rfl, rfl, rfl, Nat.le_refl _, fun _ _ _ => rfl⟩

theorem cell_lt {w : World} {a : Addr} {v : Value} (h : w.cell? a = some v) : a.block < w.heap.size := by
 unfold World.cell? at h
 by_cases hb : a.block < w.heap.size
 · exact hb
 · rw [Array.getElem?_eq_none (by omega)] at h; cases h

theorem below_draws {w : World} {B : Nat} (n : Nat) : Below B w (w.drewN n) := ⟨rfl, rfl, rfl, Nat.le_refl _, fun _ _ => rfl⟩

theorem below_new {w w1 w2 : World} (g0 : w.grownBy w1 none) (g1 : w1.grownBy w2 (some w.heap.size)) : Below w.heap.size w w2 :=
 ⟨g1.os.trans g0.os, g1.tape.trans g0.tape, g1.output.trans g0.output, Nat.le_trans g0.size g1.size, fun k hk => (g1.block k (by have := g0.size; omega) (by simp; omega)).trans (g0.block k hk (by simp))⟩

def IsRow (k : IntKind) (w : World) (a : Option Addr) (len cap : Nat) (zs : List Int) : Prop :=
 (a = none ∧ len = 0 ∧ cap = 0 ∧ zs = []) ∨
 ∃ x, a = some x ∧ len ≤ cap ∧ cap ≤ maxLen ∧ zs.length = cap ∧ (∀ i, i < zs.length → w.cell? (x.add i) = some (.int k (zs.getD i 0))) ∧ ∀ n ∈ zs, (Lit.int k n).wf = true

theorem wf_u8 {n : Int} (h : (Lit.int .u8 n).wf = true) : 0 ≤ n ∧ n ≤ 255 := by
 simp [Lit.wf, IntKind.min, IntKind.max, IntKind.signed, IntKind.bits] at h; omega
theorem ofInt_i64 (a : Nat) (ha : a < 9223372036854775808) : (BitVec.ofInt 64 (a : Int)).toNat = a := by
 rw [BitVec.ofInt_natCast, BitVec.toNat_ofNat]; exact Nat.mod_eq_of_lt (by omega)
theorem i64_or_nat (a b : Nat) (ha : a < 9223372036854775808) (hb : b < 9223372036854775808) : bits .or .i64 (a : Int) (b : Int) = ((a ||| b : Nat) : Int) := by
 have hx : a ||| b < 2 ^ 63 := Nat.or_lt_two_pow (by omega) (by omega)
 show IntKind.i64.wrap ((BitVec.ofInt 64 (a : Int) ||| BitVec.ofInt 64 (b : Int)).toNat : Int) = _
 rw [BitVec.toNat_or, ofInt_i64 a ha, ofInt_i64 b hb, IntKind.wrap_i64]
 omega
theorem bent_zero (l : List UInt8) : Bent 0 l l := by
 induction l with
 | nil => trivial
 | cons a l ih => exact ⟨by simp, by simpa using ih⟩

theorem and_one (x : Nat) (h : x < 4294967296) : bits .and .u32 (x : Int) 1 = ((x % 2 : Nat) : Int) := by
 have := u32_and_nat x 1 h (by omega)
 rw [show ((1 : Nat) : Int) = 1 from rfl] at this
 rw [this, Nat.and_one_is_mod]
theorem stp_odd {x : Nat} (h : x < 4294967296) (h1 : x % 2 = 1) : bits .xor .u32 ((x : Int) / 2) 2197175160 = ((stp x : Nat) : Int) := by
 have := u32_xor_nat (x / 2) 2197175160 (by omega) (by omega)
 have e : ((x / 2 : Nat) : Int) = (x : Int) / 2 := by omega
 rw [e, show ((2197175160 : Nat) : Int) = 2197175160 from rfl] at this
 rw [this]
 unfold stp poly
 rw [if_pos h1]
theorem stp_even {x : Nat} (h1 : x % 2 = 0) : (x : Int) / 2 = ((stp x : Nat) : Int) := by
 unfold stp
 rw [if_neg (by omega), Nat.xor_zero]
 omega
theorem stN_snoc (n x : Nat) : stN (n + 1) x = stp (stN n x) := by
 rw [stN_add n 1]; rfl
theorem crc_turn (x : Nat) (h : x < 4294967296) : bits .xor .u32 4294967295 (x : Int) = ((4294967295 - x : Nat) : Int) := by
 have h1 := u32_xor_nat 4294967295 x (by omega) h
 rw [show ((4294967295 : Nat) : Int) = 4294967295 from rfl] at h1
 rw [h1]
 congr 1
 have e : (4294967295 : Nat) = 2 ^ 32 - 1 := by decide
 apply Nat.eq_of_testBit_eq
 intro i
 rw [Nat.testBit_xor, e, Nat.testBit_two_pow_sub_one, show 2 ^ 32 - 1 - x = 2 ^ 32 - (x + 1) by omega, Nat.testBit_two_pow_sub_succ (by omega)]
 by_cases hi : i < 32
 · simp [hi]
 · have : x.testBit i = false := Nat.testBit_lt_two_pow (Nat.lt_of_lt_of_le h (Nat.pow_le_pow_right (n := 2) (by omega) (by omega : 32 ≤ i)))
   simp [hi, this]
theorem crc_end (l : List UInt8) : wrap64 (bits .xor .u32 IntKind.u32.max ((crcF 4294967295 l : Nat) : Int)) = ((crc l : Nat) : Int) := by
 have h := crcF_lt l (x := 4294967295) (by omega)
 have e : IntKind.u32.max = 4294967295 := rfl
 rw [e, crc_turn _ h]
 unfold crc wrap64
 omega
theorem xor_byte (x : Nat) (c : UInt8) (h : x < 4294967296) : bits .xor .u32 (x : Int) (c.toNat : Int) = ((x ^^^ c.toNat : Nat) : Int) := u32_xor_nat x c.toNat h (by have := c.toNat_lt; omega)
theorem xor_byte_lt (x : Nat) (c : UInt8) (h : x < 4294967296) : x ^^^ c.toNat < 4294967296 := by
 have hc := c.toNat_lt
 have : x ^^^ c.toNat < 2 ^ 32 := Nat.xor_lt_two_pow h (by omega)
 exact this

set_option maxHeartbeats 1000000 in
theorem specCrc (s : ByteArray) (w : World) (hs : s.size ≤ maxLen) :
   Calls Tryz.prog 131 #[.string s] w fun e w' => e = .returned (.int .i64 (crc s.data.toList : Nat)) ∧ w = w' := by
 unfold maxLen at hs
 go_enter Tryz.func131, Tryz.ntmps131
 go_wp2_with fail
 go_loop [3, 4] (fun x i => ∃ k : Nat, k ≤ s.size ∧ i = .int .i64 k ∧ x = .int .u32 (crcF 4294967295 (s.data.toList.take k) : Nat)) (fun _ i => s.size - (intOf i).toNat)
 case atStart => exact ⟨0, Nat.zero_le _, rfl, rfl⟩
 case round =>
   obtain ⟨k, hk, rfl, rfl⟩ := hrel
   have hX := crcF_lt (s.data.toList.take k) (x := 4294967295) (by omega)
   by_cases hlt : k < s.size
   · have HS := Lib.hid (show crcF 4294967295 (s.data.toList.take (k + 1)) = crcB (crcF 4294967295 (s.data.toList.take k)) s[k] by rw [take_snoc s k hlt, crcF_snoc])
     have HB := Lib.hid (xor_byte _ s[k] hX)
     have hbl := xor_byte_lt _ s[k] hX
     have hc := s[k].toNat_lt
     generalize crcF 4294967295 (s.data.toList.take k) = X at HS HB hbl hX ⊢
     have HX := Lib.hid hX
     clear hX
     go_wp2_with fail
     rw [HB.out]
     generalize hY : X ^^^ s[k].toNat = Y at hbl ⊢
     have HY := Lib.hid hY
     have HYL := Lib.hid hbl
     clear hY hbl
     go_loop [3, 5] (fun x i => ∃ j : Nat, j ≤ 8 ∧ i = .int .i64 j ∧ x = .int .u32 (stN j Y : Nat)) (fun _ i => 8 - (intOf i).toNat)
     case atStart => exact ⟨0, by omega, rfl, rfl⟩
     case round =>
       obtain ⟨j, hj, rfl, rfl⟩ := hrel
       have hZ := stN_lt j HYL.out
       by_cases hj8 : j < 8
       · have HN := Lib.hid (stN_snoc j Y)
         generalize stN j Y = Z at hZ HN ⊢
         rcases Nat.mod_two_eq_zero_or_one Z with h2 | h2
         · have ha := and_one Z hZ
           rw [h2] at ha
           have HE := Lib.hid (stp_even h2)
           have HZ := Lib.hid hZ
           clear h2 hZ
           go_wp2
           go_round
           case rel => exact ⟨j + 1, by omega, by go_num, congrArg (Value.int IntKind.u32) (by rw [HN.out, HE.out])⟩
           case measure => simp [intOf]; omega
         · have ha := and_one Z hZ
           rw [h2] at ha
           have HE := Lib.hid (stp_odd hZ h2)
           have HZ := Lib.hid hZ
           clear h2 hZ
           go_wp2
           go_round
           case rel => exact ⟨j + 1, by omega, by go_num, congrArg (Value.int IntKind.u32) (by rw [HN.out, HE.out])⟩
           case measure => simp [intOf]; omega
       · obtain rfl : j = 8 := by omega
         have HE := Lib.hid (show stN 8 Y = crcF 4294967295 (s.data.toList.take (k + 1)) by rw [HS.out, ← HY.out]; rfl)
         clear hZ
         rw [HE.out]
         go_wp2
         go_round
         case rel => exact ⟨k + 1, by omega, by go_num, rfl⟩
         case measure => simp [intOf]; omega
   · obtain rfl : k = s.size := by omega
     have e0 : s.data.toList.take s.size = s.data.toList := List.take_of_length_le (by simp)
     rw [e0] at hX ⊢
     have HT := Lib.hid (crc_end s.data.toList)
     clear e0 hX
     go_wp2
     go_ret
     exact ⟨ret_int HT.out, rfl⟩
theorem specIn_yes (x a b : Int) (w : World) (h1 : a ≤ x) (h2 : x ≤ b) :
   Calls Tryz.prog 61 #[.int .i64 x, .int .i64 a, .int .i64 b] w fun e w' => e = .returned (.bool true) ∧ w = w' := by
 go_enter Tryz.func61, Tryz.ntmps61
 go_wp2
 go_ret
 exact ⟨by simp, rfl⟩
theorem specIn_no (x a b : Int) (w : World) (h : x < a ∨ b < x) :
   Calls Tryz.prog 61 #[.int .i64 x, .int .i64 a, .int .i64 b] w fun e w' => e = .returned (.bool false) ∧ w = w' := by
 by_cases h1 : a ≤ x
 · have h2 : ¬ x ≤ b := by omega
   clear h
   go_enter Tryz.func61, Tryz.ntmps61
   go_wp2
   go_ret
   exact ⟨by simp, rfl⟩
 · clear h
   go_enter Tryz.func61, Tryz.ntmps61
   go_wp2
   go_ret
   exact ⟨by simp, rfl⟩
theorem infoB : (Tryz.prog.info? 5).map (fun i => (i.zero, i.size, i.bytes)) = some (some (.int .u8 0), 1, 1) := by kernel_rfl

def u8v (c : UInt8) : Value := .int .u8 c.toNat

structure BRow (w0 w : World) (v : Value) (xs : List UInt8) : Prop where
 row : w.ownsRow w0.heap.size 5 1 v xs.length (xs.map u8v)
 below : Below w0.heap.size w0 w

theorem BRow.push {w0 w w' : World} {v v' : Value} {xs : List UInt8} (t : BRow w0 w v xs) (o : Obj) (x : UInt8)
   (hown : w'.ownsRow w0.heap.size 5 1 v' (xs.length + 1) (xs.map u8v ++ [u8v x])) (hg : (w.alloc o).grownBy w' v.ownBlock) :
   ∃ g c, v' = .slice (some ⟨g, 0, none⟩) (xs.length + 1) c ∧ BRow w0 w' v' (xs ++ [x]) := by
 obtain ⟨g, c, rfl⟩ := ownsRow_succ hown
 refine ⟨g, c, rfl, by simpa using hown, ?_⟩
 exact (t.below.alloc t.below.size o).grown hg (by have := t.below.size; simp; omega) (fun k hk => (t.row.lt k hk).1)

theorem wp_pushB {w0 w : World} {v : Value} {xs : List UInt8} (y : UInt8) {Y : Int} (hY : Y = y.toNat) {ops : Array Oper} {rest : List Oper} {o : Oper} {act : Act} {Q : Exit → Act → World → Prop} (hgd : o.guard = none) (s x : Operand)
   (hop : o.op = .call { callee := .builtin .append, args := #[s, x], argTypes := #[22, 22] })
   (hs : act.eval s = v) (hx : act.eval x = .slice (some ⟨w.heap.size, 0, none⟩) 1 1) (t : BRow w0 w v xs) (hl : xs.length < 1000000000)
   (hk : ∀ g c w', BRow w0 w' (.slice (some ⟨g, 0, none⟩) (xs.length + 1) c) (xs ++ [y]) → wpList Tryz.prog ops Q rest (act.put o.dst (.slice (some ⟨g, 0, none⟩) (xs.length + 1) c)) w') :
   wpList Tryz.prog ops Q (o :: rest) act (w.alloc (.cells #[.int .u8 Y] 5)) := by
 subst hY
 obtain ⟨ti, hti, hz0, hz1, hz2⟩ := info_parts infoB
 refine wpList_append_own _ hgd s x 22 hop w0.heap.size 5 ti (.int .u8 0) 1 1 Tryz.underlying22 hti hz0 hz1 hz2 rfl (by decide) _ xs.length (xs.map u8v) hs (t.row.alloc _)
   ⟨w.heap.size, 0, none⟩ 1 1 [u8v y] hx rfl (cell_one_new _ _ _) (fun u hu => by simp at hu; subst hu; rfl) (by unfold maxLen; omega) (by omega) (by have := t.below.size; simp; omega) ?_
 intro v' w' hown hg _
 obtain ⟨g, c, rfl, t'⟩ := t.push _ y hown hg
 exact hk g c w' t'

theorem brow_made (w : World) : BRow w (w.alloc (.cells #[] 5)) (.slice (some ⟨w.heap.size, 0, none⟩) 0 0) [] :=
 ⟨World.ownsRow_made w #[] 0 (Nat.le_refl _) (by unfold maxLen; omega) (by simp), (Below.refl _ w).alloc (Nat.le_refl _) _⟩
theorem brow_nil (w : World) : BRow w w (.slice none 0 0) [] := ⟨World.ownsRow_nil _ _ _ _, Below.refl _ _⟩

theorem BRow.cell {w0 w : World} {g c n : Nat} {xs : List UInt8} (t : BRow w0 w (.slice (some ⟨g, 0, none⟩) n c) xs) (j : Nat) (hj : j < xs.length) : w.cell? ⟨g, j, none⟩ = some (u8v (xs.getD j 0)) := by
 have := t.row.cells (g := g) rfl j (u8v (xs.getD j 0)) (by simp [List.getElem?_eq_getElem hj])
 have e : (⟨g, 0, none⟩ : Addr).add j = ⟨g, j, none⟩ := by
   unfold Addr.add; split
   · subst_vars; rfl
   · simp
 rwa [e] at this

theorem strOf (xs : List UInt8) : strOfNums (xs.map fun c => (c.toNat : Int)) = ⟨xs.toArray⟩ := by
 unfold strOfNums
 rw [List.map_map]
 congr 2
 conv => rhs; rw [← List.map_id xs]
 apply List.map_congr_left
 intro a _
 simp [Function.comp]

theorem str_of_cells {w : World} {g c n : Nat} (xs : List UInt8) (hn : xs.length = n) (h : ∀ j, j < xs.length → w.cell? ⟨g, j, none⟩ = some (u8v (xs.getD j 0))) :
   (convert 22 9 (.slice (some ⟨g, 0, none⟩) n c)).run Tryz.prog w = .ok (.string ⟨xs.toArray⟩) w := by
 rw [← strOf]
 refine run_convert_bytes_arg (P := Tryz.prog) w 22 5 Tryz.underlying22 Tryz.underlying5 g 0 n c (xs.map fun c => (c.toNat : Int)) (by simpa using hn) (fun j hj => ?_) 9 Tryz.underlying9
 rw [Nat.zero_add, h j (by omega)]
 have hj' : j < xs.length := by omega
 simp [u8v, List.getElem?_eq_getElem hj']

theorem BRow.str {w0 w : World} {g c n : Nat} {xs : List UInt8} (t : BRow w0 w (.slice (some ⟨g, 0, none⟩) n c) xs) (hn : xs.length = n) :
   (convert 22 9 (.slice (some ⟨g, 0, none⟩) n c)).run Tryz.prog w = .ok (.string ⟨xs.toArray⟩) w :=
 str_of_cells xs hn t.cell

structure BArr (w0 w : World) (g : Nat) (xs : List UInt8) : Prop where
 block : w.heap[g]? = some (.cells (xs.map u8v).toArray 5 (0, 0))
 own : w0.heap.size ≤ g
 below : Below w0.heap.size w0 w

theorem BArr.cell {w0 w : World} {g : Nat} {xs : List UInt8} (t : BArr w0 w g xs) (j : Nat) (hj : j < xs.length) : w.cell? ⟨g, j, none⟩ = some (u8v (xs.getD j 0)) := by
 simp [World.cell?, t.block, List.getElem?_eq_getElem hj]
theorem BArr.frozen {w0 w : World} {g : Nat} {xs : List UInt8} (t : BArr w0 w g xs) (j : Nat) : w.frozen? ⟨g, j, none⟩ = false := by
 simp [World.frozen?, t.block]
theorem BArr.set {w0 w : World} {g : Nat} {xs : List UInt8} (t : BArr w0 w g xs) (k : Nat) (c : UInt8) {v : Value} (hv : v = u8v c) : BArr w0 (w.setCell ⟨g, k, none⟩ v) g (xs.set k c) := by
 subst hv
 refine ⟨?_, t.own, t.below.trans ?_⟩
 · rw [set_block _ t.block]
   simp [List.map_set]
 · exact (Below.refl _ _).setCell t.own _
theorem BArr.drewN {w0 w : World} {g : Nat} {xs : List UInt8} (t : BArr w0 w g xs) (n : Nat) : BArr w0 (w.drewN n) g xs := ⟨t.block, t.own, t.below.trans (below_draws n)⟩
theorem BArr.str {w0 w : World} {g c n : Nat} {xs : List UInt8} (t : BArr w0 w g xs) (hn : xs.length = n) :
   (convert 22 9 (.slice (some ⟨g, 0, none⟩) n c)).run Tryz.prog w = .ok (.string ⟨xs.toArray⟩) w := str_of_cells xs hn t.cell

theorem madeB (n : Nat) : (madeCells (Value.int .u8 0).cells (n * 1)).toList = (List.replicate n (0 : UInt8)).map u8v := by
 simp only [madeCells, Value.cells, u8v, List.map_replicate, Nat.mul_one]
 apply List.ext_getElem
 · simp
 · intro i h1 h2
   have : i % 1 = 0 := by omega
   simp [this]

theorem wp_makeB {w : World} {ops : Array Oper} {rest : List Oper} {o : Oper} {act : Act} {Q : Exit → Act → World → Prop} (hgd : o.guard = none) (l c : Operand) (hop : o.op = Op.makeSlice 22 l c)
   (L C : Int) (n : Nat) (hl : act.eval l = .int .i64 L) (hc : act.eval c = .int .i64 C) (hL : L = n) (hC : C = n) (hn : n < 1000000000)
   (hk : ∀ w', BArr w w' w.heap.size (List.replicate n 0) → wpList Tryz.prog ops Q rest (act.put o.dst (.slice (some ⟨w.heap.size, 0, none⟩) n n)) w') :
   wpList Tryz.prog ops Q (o :: rest) act w := by
 obtain ⟨ti, hti, hz0, hz1, hz2⟩ := info_parts infoB
 refine wpList_make_full _ hgd l c 22 hop w.heap.size 5 ti (.int .u8 0) 1 Tryz.underlying22 hti hz0 hz1 .i64 .i64 L C n hl hc hL hC (by rw [hz2]; omega) (by unfold maxLen; omega) (Nat.le_refl _) ?_
 intro w' hown hg
 refine hk w' ⟨?_, Nat.le_refl _, ⟨hg.os, hg.tape, hg.output, hg.size, fun k hk => hg.block k hk (by simp)⟩⟩
 rcases hown.2 with ⟨h0, _⟩ | ⟨g, cap, cur, h1, _, h2, _, _, h3, h4⟩
 · cases h0
 · cases h1
   rw [h2]
   have e : cur = ((List.replicate n (0 : UInt8)).map u8v).toArray := by
     apply Array.toList_inj.1
     rw [← madeB, ← h4, List.take_of_length_le (by simp; omega)]
   rw [e]
end Go.Proofs.YtkomnnijnggbpaaGreatDoor
/- Contract of the program's PutFix. -/

namespace Go.Proofs.YtkomnnijnggbpaaGreatDoor
open Go.RowKit
set_option linter.unusedVariables false

def TextIs (w : World) (l : List UInt8) (e : Ending) (w' : World) : Prop := e = .returned (.string ⟨l.toArray⟩) ∧ Below w.heap.size w w'

theorem TextIs.text {w w' : World} {l : List UInt8} {e : Ending} (h : TextIs w l e w') : ∃ S : ByteArray, S.data.toList = l ∧ S.size = l.length ∧ e = .returned (.string S) ∧ Below w.heap.size w w' :=
 ⟨⟨l.toArray⟩, rfl, by simp [ByteArray.size], h.1, h.2⟩
theorem putFix_no {n b : Int} (h : n < 0 ∨ b < 1 ∨ 4 < b) : putFix n b = [] := by unfold putFix; rw [if_neg (by omega)]
theorem putFix_in {n b : Nat} (h1 : 1 ≤ b) (h4 : b ≤ 4) : putFix n b = fixB n b := by unfold putFix; rw [if_pos (by omega)]; rfl

theorem byteInt (n k : Nat) : ((n : Int) / 2 ^ (8 * k) % 256) = ((UInt8.ofNat (n / 2 ^ (8 * k))).toNat : Int) := by
 have e : (n : Int) / 2 ^ (8 * k) = ((n / 2 ^ (8 * k) : Nat) : Int) := by simp
 rw [e, UInt8.toNat_ofNat']
 omega

theorem fix_set (n b k : Nat) (h : k < b) : (fixB n k ++ List.replicate (b - k) 0).set k (UInt8.ofNat (n / 2 ^ (8 * k))) = fixB n (k + 1) ++ List.replicate (b - (k + 1)) 0 := by
 rw [List.set_append_right _ _ (by rw [fix_length]; omega), fix_length, Nat.sub_self]
 have e : b - k = (b - (k + 1)) + 1 := by omega
 rw [e, List.replicate_succ, List.set_cons_zero, fix_succ]
 simp

set_option maxHeartbeats 400000 in
theorem implPutFix_in (n b : Nat) (w : World) (hn : (n : Int) ≤ 9223372036854775807) (h1 : 1 ≤ b) (h4 : b ≤ 4) :
   Calls Tryz.prog 97 #[.int .i64 n, .int .i64 b] w (TextIs w (fixB n b)) := by
 go_enter Tryz.func97, Tryz.ntmps97
 go_wp2_with (at_make; refine wp_makeB rfl _ _ rfl _ _ b rfl rfl rfl rfl (by omega) ?_; intro w2 t2; have T2 := Lib.hid t2; clear t2)
 go_loopw [21] (fun i wr => ∃ (k : Nat), k ≤ b ∧ i = .int .i64 k ∧ BArr w wr w.heap.size (fixB n k ++ List.replicate (b - k) 0)) (fun i _ => b - (intOf i).toNat)
 case atStart => exact ⟨0, Nat.zero_le _, rfl, T2.out⟩
 case round =>
   obtain ⟨k, hk, rfl, t⟩ := hrel
   have TT := Lib.hid t
   by_cases hlt : k < b
   · have HS := Lib.hid (fix_set n b k hlt)
     have hc := t.cell k (by simp [fix_length]; omega)
     have hf := t.frozen k
     clear t
     go_wp2
     go_roundw
     case rel => exact ⟨k + 1, by omega, by go_num, by rw [← HS.out]; exact TT.out.set k _ (by unfold u8v; rw [← byteInt])⟩
     case measure => simp [intOf]; omega
   · obtain rfl : k = b := by omega
     have hcv := t.str (c := k) (n := k) (by simp [fix_length])
     clear t
     go_wp2
     go_ret
     exact ⟨ret_text (by simp), TT.out.below⟩

set_option maxHeartbeats 400000 in
theorem implPutFix (n b : Int) (w : World) (h0 : -9223372036854775808 ≤ n) (h1 : n ≤ 9223372036854775807) :
   Calls Tryz.prog 97 #[.int .i64 n, .int .i64 b] w (TextIs w (putFix n b)) := by
 by_cases hn : n < 0
 · go_enter Tryz.func97, Tryz.ntmps97
   go_wp2
   go_ret
   exact ⟨ret_text (a := []) (putFix_no (by omega)).symm, Below.refl _ _⟩
 · obtain ⟨n, rfl⟩ := Int.eq_ofNat_of_zero_le (by omega : 0 ≤ n)
   by_cases hb : b < 1
   · go_enter Tryz.func97, Tryz.ntmps97
     go_wp2
     go_ret
     exact ⟨ret_text (a := []) (putFix_no (by omega)).symm, Below.refl _ _⟩
   · by_cases hb4 : 4 < b
     · go_enter Tryz.func97, Tryz.ntmps97
       go_wp2
       go_ret
       exact ⟨ret_text (a := []) (putFix_no (by omega)).symm, Below.refl _ _⟩
     · obtain ⟨b, rfl⟩ := Int.eq_ofNat_of_zero_le (by omega : 0 ≤ b)
       rw [putFix_in (by omega) (by omega)]
       exact implPutFix_in n b w h1 (by omega) (by omega)
set_option maxHeartbeats 400000 in
theorem specPutFix_in (n b : Nat) (w : World) (hn : (n : Int) ≤ 9223372036854775807) (h1 : 1 ≤ b) (h4 : b ≤ 4) :
   Calls Tryz.prog 60 #[.int .i64 n, .int .i64 b] w (TextIs w (fixB n b)) := by
 go_enter Tryz.func60, Tryz.ntmps60
 go_wp2_with fail
 refine (specIn_yes _ _ _ _ (by omega) (by omega)).mono ?_
 rintro e w1 ⟨rfl, rfl⟩
 go_wp2_with fail
 go_loopw [5, 6] (fun v i wr => ∃ (k c g : Nat), k ≤ b ∧ i = .int .i64 k ∧ v = .slice (some ⟨g, 0, none⟩) k c ∧ BRow w wr v (fixB n k)) (fun _ i _ => b - (intOf i).toNat)
 case atStart => exact ⟨0, 0, _, Nat.zero_le _, rfl, rfl, brow_made w⟩
 case round =>
   obtain ⟨k, c, g, hk, rfl, rfl, t⟩ := hrel
   have TT := Lib.hid t
   have hl := fix_length n k
   by_cases hlt : k < b
   · have HS := Lib.hid (fix_succ n k)
     have HL := Lib.hid hl
     clear t hl
     go_wp2_with (at_builtin; refine wp_pushB (UInt8.ofNat (n / 2 ^ (8 * k))) (byteInt n k) rfl _ _ rfl rfl rfl TT.out (by rw [HL.out]; omega) ?_; rw [← HS.out, HL.out]; intro g2 c2 w2 t2; have T2 := Lib.hid t2; clear t2)
     go_roundw
     case rel => exact ⟨k + 1, c2, g2, by omega, by go_num, rfl, T2.out⟩
     case measure => simp [intOf]; omega
   · obtain rfl : k = b := by omega
     have hcv := t.str hl
     clear t hl
     go_wp2
     go_ret
     exact ⟨rfl, TT.out.below⟩

set_option maxHeartbeats 400000 in
theorem specPutFix (n b : Int) (w : World) (h0 : -9223372036854775808 ≤ n) (h1 : n ≤ 9223372036854775807) :
   Calls Tryz.prog 60 #[.int .i64 n, .int .i64 b] w (TextIs w (putFix n b)) := by
 by_cases hn : n < 0
 · go_enter Tryz.func60, Tryz.ntmps60
   go_wp2
   go_ret
   exact ⟨ret_text (a := []) (putFix_no (by omega)).symm, Below.refl _ _⟩
 · obtain ⟨n, rfl⟩ := Int.eq_ofNat_of_zero_le (by omega : 0 ≤ n)
   by_cases hb : b < 1 ∨ 4 < b
   · have HB := Lib.hid hb
     clear hb
     go_enter Tryz.func60, Tryz.ntmps60
     go_wp2_with fail
     refine (specIn_no _ _ _ _ HB.out).mono ?_
     rintro e w1 ⟨rfl, rfl⟩
     go_wp2
     go_ret
     exact ⟨ret_text (a := []) (putFix_no (Or.inr HB.out)).symm, Below.refl _ _⟩
   · obtain ⟨b, rfl⟩ := Int.eq_ofNat_of_zero_le (by omega : 0 ≤ b)
     rw [putFix_in (by omega) (by omega)]
     exact specPutFix_in n b w h1 (by omega) (by omega)
def RdT (T : Nat) (w : World) (p : Nat) (s : ByteArray) (a : Int) : Prop := w.heap[p]? = some (.cells #[.string s, .int .i64 a] T (0, 0))
abbrev RdAt (w : World) (p : Nat) (s : ByteArray) (a : Int) : Prop := RdT 113 w p s a
theorem RdT.cells {T : Nat} {w : World} {p : Nat} {s : ByteArray} {a : Int} (h : RdT T w p s a) :
   w.cell? ⟨p, 0, none⟩ = some (.string s) ∧ w.cell? ⟨p, 1, none⟩ = some (.int .i64 a) ∧ w.frozen? ⟨p, 1, none⟩ = false := by
 unfold RdT at h
 refine ⟨?_, ?_, ?_⟩ <;> simp [World.cell?, World.frozen?, h]
theorem RdT.drewN {T : Nat} {w : World} {p : Nat} {s : ByteArray} {a : Int} (h : RdT T w p s a) (n : Nat) : RdT T (w.drewN n) p s a := h
theorem RdT.set {T : Nat} {w : World} {p : Nat} {s : ByteArray} {a : Int} (h : RdT T w p s a) (b : Int) : RdT T (w.setCell ⟨p, 1, none⟩ (.int .i64 b)) p s b := by
 unfold RdT at h ⊢
 rw [set_block _ h]
 rfl
theorem RdT.lt {T : Nat} {w : World} {p : Nat} {s : ByteArray} {a : Int} (h : RdT T w p s a) : p < w.heap.size := (Array.getElem?_eq_some_iff.1 h).1
theorem rd_new (w : World) (s : ByteArray) (a : Int) : RdAt (w.alloc (.cells #[.string s, .int .i64 a] 113)) w.heap.size s a := by
 show (w.heap.push _)[w.heap.size]? = _
 rw [Array.getElem?_push, if_pos rfl]

def BoolIs (w : World) (b : Bool) (e : Ending) (w' : World) : Prop := e = .returned (.bool b) ∧ ∃ n, w' = w.drewN n

set_option maxHeartbeats 400000 in
theorem has_yes {T : Nat} (p : Nat) (s : ByteArray) (a n : Nat) (w : World) (h : RdT T w p s a) (hs : s.size ≤ maxLen) (hn : a + n ≤ s.size) :
   Calls Tryz.prog 133 #[.pointer (some ⟨p, 0, none⟩), .int .i64 n] w (BoolIs w true) := by
 unfold maxLen at hs
 obtain ⟨c0, c1, f1⟩ := h.cells
 clear h
 have d1 : decide ((0 : Int) ≤ (n : Int)) = true := by simp
 have d2 : decide ((0 : Int) ≤ (a : Int)) = true := by simp
 have d3 : decide (a ≤ s.size) = true := by simp; omega
 go_enter Tryz.func133, Tryz.ntmps133
 go_wp2
 go_quiet (fail)
 go_wp2
 go_ret
 exact ⟨ret_bool (by simp; omega), _, rfl⟩

set_option maxHeartbeats 400000 in
theorem has_no {T : Nat} (p : Nat) (s : ByteArray) (a n : Int) (w : World) (h : RdT T w p s a) (hs : s.size ≤ maxLen) (hn : n < 0 ∨ a < 0 ∨ s.size < a ∨ s.size - a < n) :
   Calls Tryz.prog 133 #[.pointer (some ⟨p, 0, none⟩), .int .i64 n] w (BoolIs w false) := by
 unfold maxLen at hs
 obtain ⟨c0, c1, f1⟩ := h.cells
 clear h
 have HN := Lib.hid hn
 clear hn
 by_cases d1 : 0 ≤ n
 · have d1' : decide (0 ≤ n) = true := by simpa using d1
   by_cases d2 : 0 ≤ a
   · have d2' : decide (0 ≤ a) = true := by simpa using d2
     by_cases d3 : a ≤ s.size
     · have d3' : decide (a ≤ s.size) = true := by simpa using d3
       go_enter Tryz.func133, Tryz.ntmps133
       go_wp2
       go_quiet (fail)
       go_wp2
       go_ret
       exact ⟨ret_bool (by have := HN.out; simp; omega), _, rfl⟩
     · have d3' : decide (a ≤ s.size) = false := by simpa using d3
       go_enter Tryz.func133, Tryz.ntmps133
       go_wp2
       go_quiet (fail)
       go_wp2
       go_ret
       exact ⟨rfl, _, rfl⟩
   · have d2' : decide (0 ≤ a) = false := by simpa using d2
     go_enter Tryz.func133, Tryz.ntmps133
     go_wp2
     go_quiet (fail)
     go_wp2
     go_ret
     exact ⟨rfl, _, rfl⟩
 · have d1' : decide (0 ≤ n) = false := by simpa using d1
   go_enter Tryz.func133, Tryz.ntmps133
   go_wp2
   go_quiet (fail)
   go_wp2
   go_ret
   exact ⟨rfl, _, rfl⟩

def Taken (T : Nat) (w : World) (p : Nat) (s : ByteArray) (a n : Nat) (e : Ending) (w' : World) : Prop :=
 e = .returned (.tuple #[.string (s.extract a (a + n)), .bool true]) ∧ RdT T w' p s (a + n : Nat) ∧ w.grownBy w' (some p)

set_option maxHeartbeats 400000 in
theorem take_yes {T : Nat} (p : Nat) (s : ByteArray) (a n : Nat) (w : World) (h : RdT T w p s a) (hs : s.size ≤ maxLen) (hn : a + n ≤ s.size) :
   Calls Tryz.prog 153 #[.pointer (some ⟨p, 0, none⟩), .int .i64 n] w (Taken T w p s a n) := by
 have HH := Lib.hid h
 have HS := Lib.hid hs
 unfold maxLen at hs
 obtain ⟨c0, c1, f1⟩ := h.cells
 clear h
 go_enter Tryz.func153, Tryz.ntmps153
 go_wp2_with fail
 refine (has_yes p s a n _ HH.out HS.out hn).mono ?_
 rintro e w1 ⟨rfl, m, rfl⟩
 have i1 : (a : Int) + (n : Int) ≤ (s.size : Int) := by omega
 go_wp2
 go_quiet (fail)
 go_wp2
 go_ret2
 refine ⟨rfl, ?_, (grown_drewN _ _ _).trans (grown_set _ _ _ _)⟩
 have e : ((a + n : Nat) : Int) = (a : Int) + (n : Int) := by omega
 rw [e]
 exact (HH.out.drewN _).set _

set_option maxHeartbeats 400000 in
theorem take_no {T : Nat} (p : Nat) (s : ByteArray) (a n : Int) (w : World) (h : RdT T w p s a) (hs : s.size ≤ maxLen) (hn : n < 0 ∨ a < 0 ∨ s.size < a ∨ s.size - a < n) :
   Calls Tryz.prog 153 #[.pointer (some ⟨p, 0, none⟩), .int .i64 n] w fun e w' => e = .returned (.tuple #[.string ⟨#[]⟩, .bool false]) ∧ ∃ n, w' = w.drewN n := by
 have HH := Lib.hid h
 have HN := Lib.hid hn
 clear h hn
 go_enter Tryz.func153, Tryz.ntmps153
 go_wp2_with fail
 refine (has_no p s a n _ HH.out hs HN.out).mono ?_
 rintro e w1 ⟨rfl, m, rfl⟩
 go_wp2
 go_ret2
 exact ⟨rfl, _, rfl⟩
def hstep (x : Nat) (c : UInt8) : Nat := ((x ^^^ c.toNat) * 16777619) % 4294967296
def hashF (x : Nat) (l : List UInt8) : Nat := l.foldl hstep x
def hash (l : List UInt8) : Nat := hashF 2166136261 l
theorem hashF_snoc (x : Nat) (l : List UInt8) (c : UInt8) : hashF x (l ++ [c]) = hstep (hashF x l) c := by unfold hashF; rw [List.foldl_append, List.foldl_cons, List.foldl_nil]
theorem hstep_lt (x : Nat) (c : UInt8) : hstep x c < 4294967296 := by unfold hstep; omega
theorem hashF_cons (x : Nat) (c : UInt8) (l : List UInt8) : hashF x (c :: l) = hashF (hstep x c) l := by unfold hashF; rw [List.foldl_cons]
theorem hashF_lt (l : List UInt8) : ∀ {x : Nat}, x < 4294967296 → hashF x l < 4294967296 := by
 induction l with
 | nil => intro x h; exact h
 | cons c l ih => intro x h; rw [hashF_cons]; exact ih (hstep_lt x c)
theorem hash_lt (l : List UInt8) : hash l < 4294967296 := by unfold hash; exact hashF_lt l (by omega)
def dlt (h : Nat) : Nat := h / 131072 ||| (h * 32768) % 4294967296
theorem dlt_lt {h : Nat} (hh : h < 4294967296) : dlt h < 4294967296 := by
 unfold dlt
 have h1 : h / 131072 < 2 ^ 32 := by omega
 have h2 : (h * 32768) % 4294967296 < 2 ^ 32 := by omega
 exact Nat.or_lt_two_pow h1 h2
def stand (h : Nat) (j : Nat) : Nat := (h + j * dlt h) % 4294967296
theorem stand_zero {h : Nat} (hh : h < 4294967296) : stand h 0 = h := by unfold stand; simp; omega
theorem stand_next (h j : Nat) : stand h (j + 1) = (stand h j + dlt h) % 4294967296 := by unfold stand; rw [Nat.succ_mul]; omega
theorem stand_lt (h j : Nat) : stand h j < 4294967296 := by unfold stand; omega
def six (h bits n : Nat) : List Nat := (List.range n).map (fun j => stand h j % bits)
theorem six_snoc (h bits n : Nat) : six h bits (n + 1) = six h bits n ++ [stand h n % bits] := by unfold six; rw [List.range_succ, List.map_append]; rfl
theorem six_len (h bits n : Nat) : (six h bits n).length = n := by unfold six; simp
def probes (l : List UInt8) (bits : Int) : List Nat := if 1 ≤ bits ∧ bits ≤ 100000 then six (hash l) bits.toNat 6 else []
theorem probes_yes {l : List UInt8} {b : Nat} (h1 : 1 ≤ b) (h2 : b ≤ 100000) : probes l (b : Int) = six (hash l) b 6 := by unfold probes; rw [if_pos (by omega), Int.toNat_natCast]
theorem probes_no {l : List UInt8} {bits : Int} (h : bits < 1 ∨ 100000 < bits) : probes l bits = [] := by unfold probes; rw [if_neg (by omega)]
theorem six_lt {h bits n p : Nat} (h1 : 1 ≤ bits) (hp : p ∈ six h bits n) : p < bits := by
 unfold six at hp
 obtain ⟨j, _, rfl⟩ := List.mem_map.1 hp
 exact Nat.mod_lt _ (by omega)

def bitAt (bs : List UInt8) (b : Nat) : Bool := (bs.getD (b / 8) 0).toNat.testBit (b % 8)
def setBit (bs : List UInt8) (p : Nat) : List UInt8 := bs.set (p / 8) (UInt8.ofNat ((bs.getD (p / 8) 0).toNat ||| 2 ^ (p % 8)))
theorem setBit_len (bs : List UInt8) (p : Nat) : (setBit bs p).length = bs.length := by unfold setBit; simp
theorem or_pow (x : UInt8) (k : Nat) (h : k < 8) : (UInt8.ofNat (x.toNat ||| 2 ^ k)).toNat = x.toNat ||| 2 ^ k := by
 have h1 : x.toNat < 2 ^ 8 := by have := x.toNat_lt; omega
 have h2 : 2 ^ k < 2 ^ 8 := Nat.pow_lt_pow_right (by omega) h
 have h3 : x.toNat ||| 2 ^ k < 2 ^ 8 := Nat.or_lt_two_pow h1 h2
 rw [UInt8.toNat_ofNat']
 exact Nat.mod_eq_of_lt h3
theorem set_bit {bs : List UInt8} {p : Nat} (h : p / 8 < bs.length) (b : Nat) : bitAt (setBit bs p) b = (bitAt bs b || decide (b = p)) := by
 unfold bitAt setBit
 rw [List.getD_eq_getElem?_getD, List.getElem?_set]
 by_cases e : p / 8 = b / 8
 · rw [if_pos e, if_pos h, Option.getD_some, or_pow _ _ (by omega), Nat.testBit_or, e]
   congr 1
   rw [Nat.testBit_two_pow, decide_eq_decide]
   omega
 · rw [if_neg e, ← List.getD_eq_getElem?_getD]
   have : decide (b = p) = false := by simp; omega
   rw [this, Bool.or_false]
def setAll (bs : List UInt8) (ps : List Nat) : List UInt8 := ps.foldl setBit bs
theorem setAll_len (ps : List Nat) : ∀ bs : List UInt8, (setAll bs ps).length = bs.length := by
 induction ps with
 | nil => intro bs; rfl
 | cons p ps ih => intro bs; show (setAll (setBit bs p) ps).length = _; rw [ih, setBit_len]
theorem setAll_snoc (bs : List UInt8) (ps : List Nat) (p : Nat) : setAll bs (ps ++ [p]) = setBit (setAll bs ps) p := by unfold setAll; simp
theorem setAll_bit (ps : List Nat) : ∀ bs : List UInt8, (∀ p ∈ ps, p / 8 < bs.length) → ∀ b, bitAt (setAll bs ps) b = (bitAt bs b || ps.contains b) := by
 induction ps with
 | nil => intro bs _ b; simp [setAll]
 | cons p ps ih =>
   intro bs h b
   show bitAt (setAll (setBit bs p) ps) b = _
   rw [ih _ (fun q hq => by rw [setBit_len]; exact h q (by simp [hq])), set_bit (h p (by simp)), Bool.or_assoc]
   congr 1
def fsize (n : Nat) : Nat := if n = 0 then 1 else (10 * n + 7) / 8
theorem fsize_pos (n : Nat) : 1 ≤ fsize n := by unfold fsize; split <;> omega
theorem fsize_le {n : Nat} (h : n ≤ 200) : fsize n ≤ 250 := by unfold fsize; split <;> omega
def fillF (m : Nat) (bs : List UInt8) (keys : List (List UInt8)) : List UInt8 := keys.foldl (fun bs k => setAll bs (six (hash k) m 6)) bs
def filterB (keys : List (List UInt8)) : List UInt8 := if keys.length ≤ 200 then fillF (8 * fsize keys.length) (List.replicate (fsize keys.length) 0) keys else []
theorem fillF_snoc (m : Nat) (bs : List UInt8) (keys : List (List UInt8)) (k : List UInt8) : fillF m bs (keys ++ [k]) = setAll (fillF m bs keys) (six (hash k) m 6) := by unfold fillF; simp
theorem fillF_len (m : Nat) (keys : List (List UInt8)) : ∀ bs, (fillF m bs keys).length = bs.length := by
 induction keys with
 | nil => intro bs; rfl
 | cons k ks ih => intro bs; show (fillF m (setAll bs _) ks).length = _; rw [ih, setAll_len]
theorem fillF_bit (m : Nat) (hm : 1 ≤ m) (keys : List (List UInt8)) : ∀ bs : List UInt8, 8 * bs.length = m → ∀ b, bitAt (fillF m bs keys) b = (bitAt bs b || keys.any (fun k => (six (hash k) m 6).contains b)) := by
 induction keys with
 | nil => intro bs _ b; simp [fillF]
 | cons k ks ih =>
   intro bs hb b
   show bitAt (fillF m (setAll bs (six (hash k) m 6)) ks) b = _
   rw [ih _ (by rw [setAll_len]; exact hb), setAll_bit _ _ (fun p hp => by have := six_lt hm hp; omega), Bool.or_assoc, List.any_cons]
theorem zero_bit (n b : Nat) : bitAt (List.replicate n 0) b = false := by
 unfold bitAt
 rw [List.getD_eq_getElem?_getD, List.getElem?_replicate]
 split <;> simp
theorem filter_len {keys : List (List UInt8)} (h : keys.length ≤ 200) : (filterB keys).length = fsize keys.length := by unfold filterB; rw [if_pos h, fillF_len, List.length_replicate]
theorem filter_no {keys : List (List UInt8)} (h : 200 < keys.length) : filterB keys = [] := by unfold filterB; rw [if_neg (by omega)]
theorem filter_bit {keys : List (List UInt8)} (h : keys.length ≤ 200) (b : Nat) : bitAt (filterB keys) b = keys.any (fun k => (six (hash k) (8 * fsize keys.length) 6).contains b) := by
 unfold filterB
 have := fsize_pos keys.length
 rw [if_pos h, fillF_bit _ (by omega) _ _ (by rw [List.length_replicate]), zero_bit, Bool.false_or]
def mayHave (f key : List UInt8) : Bool := !(probes key (8 * f.length : Nat)).isEmpty && (probes key (8 * f.length : Nat)).all (bitAt f)
theorem has_keys {keys : List (List UInt8)} (h : keys.length ≤ 200) {k : List UInt8} (hk : k ∈ keys) : mayHave (filterB keys) k = true := by
 unfold mayHave
 have h1 := fsize_pos keys.length
 have h2 := fsize_le h
 rw [filter_len h, probes_yes (by omega) (by omega), Bool.and_eq_true]
 refine ⟨rfl, List.all_eq_true.2 (fun p hp => ?_)⟩
 rw [filter_bit h, List.any_eq_true]
 exact ⟨k, hk, List.contains_iff_mem.2 hp⟩
def mergeC : List Cel → List Cel → List Cel
 | [], ys => ys
 | x :: xs, [] => x :: xs
 | x :: xs, y :: ys => if celBefore x y = true then x :: mergeC xs (y :: ys) else if celBefore y x = true then y :: mergeC (x :: xs) ys else x :: mergeC xs ys
termination_by xs ys => xs.length + ys.length
def join (xs ys : List Cel) : List Cel := if cellsOk xs = true ∧ cellsOk ys = true then mergeC xs ys else []

theorem merge_nil (ys : List Cel) : mergeC [] ys = ys := by rw [mergeC]
theorem merge_end (xs : List Cel) : mergeC xs [] = xs := by cases xs <;> rw [mergeC]
theorem merge_first {x y : Cel} (xs ys : List Cel) (h : celBefore x y = true) : mergeC (x :: xs) (y :: ys) = x :: mergeC xs (y :: ys) := by rw [mergeC, if_pos h]
theorem merge_second {x y : Cel} (xs ys : List Cel) (h : celBefore x y = false) (h2 : celBefore y x = true) : mergeC (x :: xs) (y :: ys) = y :: mergeC (x :: xs) ys := by rw [mergeC, if_neg (by simp [h]), if_pos h2]
theorem merge_both {x y : Cel} (xs ys : List Cel) (h : celBefore x y = false) (h2 : celBefore y x = false) : mergeC (x :: xs) (y :: ys) = x :: mergeC xs ys := by rw [mergeC, if_neg (by simp [h]), if_neg (by simp [h2])]

theorem cellsOk_iff (xs : List Cel) : cellsOk xs = true ↔ (∀ x ∈ xs, cellOk x = true) ∧ xs.Pairwise (fun x y => Op.bytesLess (celKey x) (celKey y) = true) := by
 constructor
 · intro h
   refine ⟨fun x hx => ?_, List.pairwise_iff_getElem.2 (fun i j hi hj hij => ?_)⟩
   · obtain ⟨j, hj⟩ := List.mem_iff_getElem?.1 hx
     exact cells_ok h hj
   · have := cells_rise h (i := i) (x := xs[i]) (List.getElem?_eq_getElem hi) (j - i - 1) (y := xs[j]) (by rw [show i + (j - i - 1) + 1 = j by omega]; exact List.getElem?_eq_getElem hj)
     exact this
 · rintro ⟨h1, h2⟩
   refine cellsOk_yes (fun j hj => ?_)
   have hx : xs[j]? = some xs[j] := List.getElem?_eq_getElem hj
   cases j with
   | zero => rw [okAt_zero hx]; exact h1 _ (List.getElem_mem hj)
   | succ j =>
     have hy : xs[j]? = some (xs[j]'(by omega)) := List.getElem?_eq_getElem (by omega)
     rw [okAt_succ hx hy, h1 _ (List.getElem_mem hj), before_key (h1 _ (List.getElem_mem (by omega))) (h1 _ (List.getElem_mem hj)), ← ahead_less]
     exact List.pairwise_iff_getElem.1 h2 j (j + 1) (by omega) hj (by omega)
theorem key_three {x y : Cel} (hx : cellOk x = true) (hy : cellOk y = true) (h : celBefore x y = false) (h2 : celBefore y x = false) : celKey x = celKey y := by
 rw [before_key hx hy, ← ahead_less] at h
 rw [before_key hy hx, ← ahead_less] at h2
 by_cases e : celKey x = celKey y
 · exact e
 · rw [less_total _ _ e h] at h2
   cases h2
theorem merge_mem : ∀ (xs ys : List Cel) (z : Cel), z ∈ mergeC xs ys → z ∈ xs ∨ z ∈ ys
 | [], ys, z, h => by rw [merge_nil] at h; exact .inr h
 | x :: xs, [], z, h => by rw [merge_end] at h; exact .inl h
 | x :: xs, y :: ys, z, h => by
   cases h1 : celBefore x y with
   | true =>
     rw [merge_first xs ys h1] at h
     rcases List.mem_cons.1 h with rfl | h
     · exact .inl (by simp)
     · rcases merge_mem xs (y :: ys) z h with h | h
       · exact .inl (by simp [h])
       · exact .inr h
   | false =>
     cases h2 : celBefore y x with
     | true =>
       rw [merge_second xs ys h1 h2] at h
       rcases List.mem_cons.1 h with rfl | h
       · exact .inr (by simp)
       · rcases merge_mem (x :: xs) ys z h with h | h
         · exact .inl h
         · exact .inr (by simp [h])
     | false =>
       rw [merge_both xs ys h1 h2] at h
       rcases List.mem_cons.1 h with rfl | h
       · exact .inl (by simp)
       · rcases merge_mem xs ys z h with h | h
         · exact .inl (by simp [h])
         · exact .inr (by simp [h])
termination_by xs ys => xs.length + ys.length
theorem merge_len : ∀ (xs ys : List Cel), (mergeC xs ys).length ≤ xs.length + ys.length
 | [], ys => by rw [merge_nil]; simp
 | x :: xs, [] => by rw [merge_end]; simp
 | x :: xs, y :: ys => by
   cases h1 : celBefore x y with
   | true =>
     rw [merge_first xs ys h1]
     have := merge_len xs (y :: ys)
     simp only [List.length_cons] at this ⊢
     omega
   | false =>
     cases h2 : celBefore y x with
     | true =>
       rw [merge_second xs ys h1 h2]
       have := merge_len (x :: xs) ys
       simp only [List.length_cons] at this ⊢
       omega
     | false =>
       rw [merge_both xs ys h1 h2]
       have := merge_len xs ys
       simp only [List.length_cons] at this ⊢
       omega
termination_by xs ys => xs.length + ys.length
theorem before_less {x y : Cel} (hx : cellOk x = true) (hy : cellOk y = true) (h : celBefore x y = true) : Op.bytesLess (celKey x) (celKey y) = true := by
 rw [before_key hx hy, ← ahead_less] at h
 exact h
theorem merge_rise : ∀ (xs ys : List Cel), (∀ x ∈ xs, cellOk x = true) → (∀ y ∈ ys, cellOk y = true) → xs.Pairwise (fun x y => Op.bytesLess (celKey x) (celKey y) = true) → ys.Pairwise (fun x y => Op.bytesLess (celKey x) (celKey y) = true) → (mergeC xs ys).Pairwise (fun x y => Op.bytesLess (celKey x) (celKey y) = true)
 | [], ys, _, _, _, h => by rw [merge_nil]; exact h
 | x :: xs, [], _, _, h, _ => by rw [merge_end]; exact h
 | x :: xs, y :: ys, hx, hy, px, py => by
   have ox : cellOk x = true := hx x (by simp)
   have oy : cellOk y = true := hy y (by simp)
   obtain ⟨p1, p2⟩ := List.pairwise_cons.1 px
   obtain ⟨q1, q2⟩ := List.pairwise_cons.1 py
   have hx' : ∀ z ∈ xs, cellOk z = true := fun z hz => hx z (by simp [hz])
   have hy' : ∀ z ∈ ys, cellOk z = true := fun z hz => hy z (by simp [hz])
   cases h1 : celBefore x y with
   | true =>
     have k := before_less ox oy h1
     rw [merge_first xs ys h1]
     refine List.pairwise_cons.2 ⟨fun z hz => ?_, merge_rise xs (y :: ys) hx' hy p2 py⟩
     rcases merge_mem _ _ z hz with h | h
     · exact p1 z h
     · rcases List.mem_cons.1 h with rfl | h
       · exact k
       · exact less_trans _ _ _ k (q1 z h)
   | false =>
     cases h2 : celBefore y x with
     | true =>
       have k := before_less oy ox h2
       rw [merge_second xs ys h1 h2]
       refine List.pairwise_cons.2 ⟨fun z hz => ?_, merge_rise (x :: xs) ys hx hy' px q2⟩
       rcases merge_mem _ _ z hz with h | h
       · rcases List.mem_cons.1 h with rfl | h
         · exact k
         · exact less_trans _ _ _ k (p1 z h)
       · exact q1 z h
     | false =>
       have k := key_three ox oy h1 h2
       rw [merge_both xs ys h1 h2]
       refine List.pairwise_cons.2 ⟨fun z hz => ?_, merge_rise xs ys hx' hy' p2 q2⟩
       rcases merge_mem _ _ z hz with h | h
       · exact p1 z h
       · rw [k]; exact q1 z h
termination_by xs ys => xs.length + ys.length
theorem merge_ok {xs ys : List Cel} (hx : cellsOk xs = true) (hy : cellsOk ys = true) : cellsOk (mergeC xs ys) = true := by
 obtain ⟨a1, a2⟩ := (cellsOk_iff xs).1 hx
 obtain ⟨b1, b2⟩ := (cellsOk_iff ys).1 hy
 refine (cellsOk_iff _).2 ⟨fun z hz => ?_, merge_rise xs ys a1 b1 a2 b2⟩
 rcases merge_mem xs ys z hz with h | h
 · exact a1 z h
 · exact b1 z h
theorem join_yes {xs ys : List Cel} (hx : cellsOk xs = true) (hy : cellsOk ys = true) : join xs ys = mergeC xs ys := if_pos ⟨hx, hy⟩
theorem join_no {xs ys : List Cel} (h : cellsOk xs = false ∨ cellsOk ys = false) : join xs ys = [] := by
 unfold join
 rw [if_neg]
 rintro ⟨h1, h2⟩
 rcases h with h | h
 · rw [h] at h1; cases h1
 · rw [h] at h2; cases h2
theorem cells_one {x : Cel} (h : cellOk x = true) : cellsOk [x] = true := (cellsOk_iff _).2 ⟨fun z hz => by rw [List.mem_singleton.1 hz]; exact h, by simp⟩
theorem sizeCel : (Tryz.prog.info? 41).map (·.size) = some 5 := by kernel_rfl
theorem alloc_at (w : World) (o : Obj) : (w.alloc o).heap[w.heap.size]? = some o := by
 show (w.heap.push o)[w.heap.size]? = some o
 simp
theorem alloc_old (w : World) (o : Obj) {i : Nat} (h : i < w.heap.size) : (w.alloc o).heap[i]? = w.heap[i]? := by
 show (w.heap.push o)[i]? = w.heap[i]?
 rw [Array.getElem?_push, if_neg (Nat.ne_of_lt h)]
theorem alloc_at2 (w : World) (o o' : Obj) : ((w.alloc o).alloc o').heap[w.heap.size + 1]? = some o' := by
 have := alloc_at (w.alloc o) o'
 rwa [World.size_alloc] at this
theorem alloc_at3 (w : World) (o o' o'' : Obj) : (((w.alloc o).alloc o').alloc o'').heap[w.heap.size + 1]? = some o' := by
 rw [alloc_old _ _ (by simp)]
 exact alloc_at2 w o o'
theorem set5 {w : World} {r T : Nat} {fz : Nat × Nat} {a b c d e : Value} (h : w.heap[r]? = some (.cells #[a, b, c, d, e] T fz)) (v0 v1 v2 v3 v4 : Value) :
   (((((w.setCell ⟨r, 0, none⟩ v0).setCell ⟨r, 1, none⟩ v1).setCell ⟨r, 2, none⟩ v2).setCell ⟨r, 3, none⟩ v3).setCell ⟨r, 4, none⟩ v4).heap[r]? = some (.cells #[v0, v1, v2, v3, v4] T fz) := by
 rw [set_block _ (set_block _ (set_block _ (set_block _ (set_block (w := w) _ h))))]
 rfl
theorem set5_below {B : Nat} {w0 w : World} (h : Below B w0 w) {r : Nat} (hr : B ≤ r) (v0 v1 v2 v3 v4 : Value) :
   Below B w0 (((((w.setCell ⟨r, 0, none⟩ v0).setCell ⟨r, 1, none⟩ v1).setCell ⟨r, 2, none⟩ v2).setCell ⟨r, 3, none⟩ v3).setCell ⟨r, 4, none⟩ v4) :=
 ((((h.setCell hr _).setCell hr _).setCell hr _).setCell hr _).setCell hr _
theorem res_cell_bool {P : Program} {fn : Func} {p q : Tmp} {ty : TypeId} {b : Bool} (h : fn.results = #[.cell p ty, .tmp q]) (tmps : Array Value) (w : World) (g : Nat) (t : TypeId) (cs : Array Value) (fr : Nat × Nat) (d : TypeDesc)
   (hp : tmps.getD p undef = .pointer (some ⟨g, 0, none⟩)) (hq : tmps.getD q undef = .bool b) (hg : w.heap[g]? = some (.cells cs t fr))
   (hu : P.underlying ty = some d) (hd : (match d with | .struct _ | .array _ _ => true | _ => false) = true) (hi : (P.info? ty).map (·.size) = some cs.size) :
   (results fn tmps).run P w = .ok (.tuple #[.agg cs, .bool b]) w := by
 have hp' : tmps[p]?.getD undef = .pointer (some ⟨g, 0, none⟩) := by simpa using hp
 have hq' : tmps[q]?.getD undef = .bool b := by simpa using hq
 simp [results, h, hp', hq', asAddr, run_loadVar_row w g t ty cs fr d hg hu hd hi]
theorem one_below (w : World) (o : Obj) : Below w.heap.size w (w.alloc o) := (Below.refl _ w).alloc (Nat.le_refl _) o
theorem two_below0 (w : World) (o o' : Obj) : Below w.heap.size w ((w.alloc o).alloc o') := ((Below.refl _ w).alloc (Nat.le_refl _) o).alloc (by simp) o'
theorem two_below (w : World) (o o' : Obj) (n : Nat) : Below w.heap.size w (((w.alloc o).alloc o').drewN n) := (two_below0 w o o').trans (below_draws n)
def Two5 (A B : Nat) (a0 a1 a2 a3 a4 b0 b1 b2 b3 b4 : Value) (w : World) : Prop :=
 w.cell? ⟨A, 0, none⟩ = some a0 ∧ w.cell? ⟨A, 1, none⟩ = some a1 ∧ w.cell? ⟨A, 2, none⟩ = some a2 ∧ w.cell? ⟨A, 3, none⟩ = some a3 ∧ w.cell? ⟨A, 4, none⟩ = some a4 ∧
 w.cell? ⟨B, 0, none⟩ = some b0 ∧ w.cell? ⟨B, 1, none⟩ = some b1 ∧ w.cell? ⟨B, 2, none⟩ = some b2 ∧ w.cell? ⟨B, 3, none⟩ = some b3 ∧ w.cell? ⟨B, 4, none⟩ = some b4
theorem Two5.lt {A B : Nat} {a0 a1 a2 a3 a4 b0 b1 b2 b3 b4 : Value} {w : World} (h : Two5 A B a0 a1 a2 a3 a4 b0 b1 b2 b3 b4 w) : A < w.heap.size ∧ B < w.heap.size := ⟨cell_lt h.1, cell_lt h.2.2.2.2.2.1⟩
theorem Two5.below {A B : Nat} {a0 a1 a2 a3 a4 b0 b1 b2 b3 b4 : Value} {w w' : World} (h : Two5 A B a0 a1 a2 a3 a4 b0 b1 b2 b3 b4 w) (hb : Below w.heap.size w w') : Two5 A B a0 a1 a2 a3 a4 b0 b1 b2 b3 b4 w' := by
 obtain ⟨hA, hB⟩ := h.lt
 obtain ⟨h0, h1, h2, h3, h4, k0, k1, k2, k3, k4⟩ := h
 exact ⟨(hb.cell (p := ⟨A, 0, none⟩) hA).trans h0, (hb.cell (p := ⟨A, 1, none⟩) hA).trans h1, (hb.cell (p := ⟨A, 2, none⟩) hA).trans h2, (hb.cell (p := ⟨A, 3, none⟩) hA).trans h3, (hb.cell (p := ⟨A, 4, none⟩) hA).trans h4,
   (hb.cell (p := ⟨B, 0, none⟩) hB).trans k0, (hb.cell (p := ⟨B, 1, none⟩) hB).trans k1, (hb.cell (p := ⟨B, 2, none⟩) hB).trans k2, (hb.cell (p := ⟨B, 3, none⟩) hB).trans k3, (hb.cell (p := ⟨B, 4, none⟩) hB).trans k4⟩
theorem two5_new (w : World) (a0 a1 a2 a3 a4 b0 b1 b2 b3 b4 : Value) (T T' : Nat) : Two5 w.heap.size (w.heap.size + 1) a0 a1 a2 a3 a4 b0 b1 b2 b3 b4 ((w.alloc (.cells #[a0, a1, a2, a3, a4] T)).alloc (.cells #[b0, b1, b2, b3, b4] T')) := by
 have hA := (alloc_old (w.alloc (.cells #[a0, a1, a2, a3, a4] T)) (.cells #[b0, b1, b2, b3, b4] T') (i := w.heap.size) (by simp)).trans (alloc_at w _)
 have hB := alloc_at2 w (.cells #[a0, a1, a2, a3, a4] T) (.cells #[b0, b1, b2, b3, b4] T')
 refine ⟨?_, ?_, ?_, ?_, ?_, ?_, ?_, ?_, ?_, ?_⟩
 all_goals first | (simp only [World.cell?, hA]; rfl) | (simp only [World.cell?, hB]; rfl)
def Cel5 (w : World) (g k : Nat) (y : Cel) : Prop :=
 w.cell? ⟨g, k * 5, none⟩ = some (.string y.row) ∧ w.cell? ⟨g, k * 5 + 1, none⟩ = some (.string y.col) ∧ w.cell? ⟨g, k * 5 + 2, none⟩ = some (.int .i64 y.time) ∧ w.cell? ⟨g, k * 5 + 3, none⟩ = some (.bool y.gone) ∧ w.cell? ⟨g, k * 5 + 4, none⟩ = some (.string y.value)
theorem Cel5.below {w w' : World} {g k : Nat} {y : Cel} (h : Cel5 w g k y) (hb : Below w.heap.size w w') : Cel5 w' g k y := by
 have hA := cell_lt h.1
 obtain ⟨h0, h1, h2, h3, h4⟩ := h
 exact ⟨(hb.cell (p := ⟨g, k * 5, none⟩) hA).trans h0, (hb.cell (p := ⟨g, k * 5 + 1, none⟩) hA).trans h1, (hb.cell (p := ⟨g, k * 5 + 2, none⟩) hA).trans h2, (hb.cell (p := ⟨g, k * 5 + 3, none⟩) hA).trans h3, (hb.cell (p := ⟨g, k * 5 + 4, none⟩) hA).trans h4⟩
theorem Cel5.lt {w : World} {g k : Nat} {y : Cel} (h : Cel5 w g k y) : g < w.heap.size := cell_lt h.1
def CelRow (w : World) (a : Option Addr) (n c : Nat) (xs : List Cel) : Prop := xs.length = n ∧ n ≤ c ∧ ∀ (k : Nat) (y : Cel), xs[k]? = some y → ∃ g, a = some ⟨g, 0, none⟩ ∧ Cel5 w g k y
theorem CelRow.below {w w' : World} {a : Option Addr} {n c : Nat} {xs : List Cel} (h : CelRow w a n c xs) (hb : Below w.heap.size w w') : CelRow w' a n c xs :=
 ⟨h.1, h.2.1, fun k y hk => by obtain ⟨g, e, hc⟩ := h.2.2 k y hk; exact ⟨g, e, hc.below hb⟩⟩
theorem CelRow.drewN {w : World} {a : Option Addr} {n c : Nat} {xs : List Cel} (h : CelRow w a n c xs) (m : Nat) : CelRow (w.drewN m) a n c xs := h
def Fit (xs : List Cel) : Prop := ∀ y ∈ xs, y.row.size ≤ maxLen ∧ y.col.size ≤ maxLen ∧ y.value.size ≤ maxLen
theorem Fit.at {xs : List Cel} (h : Fit xs) {k : Nat} {y : Cel} (hk : xs[k]? = some y) : y.row.size ≤ maxLen ∧ y.col.size ≤ maxLen ∧ y.value.size ≤ maxLen := h y (List.mem_of_getElem? hk)

def celCells (y : Cel) : List Value := [.string y.row, .string y.col, .int .i64 y.time, .bool y.gone, .string y.value]
def zeroC : Cel := ⟨⟨#[]⟩, ⟨#[]⟩, 0, false, ⟨#[]⟩⟩
theorem infoCel : (Tryz.prog.info? 41).map (fun i => (i.zero, i.size, i.bytes)) = some (some (.agg #[.string ⟨#[]⟩, .string ⟨#[]⟩, .int .i64 0, .bool false, .string ⟨#[]⟩]), 5, 64) := by kernel_rfl
theorem celCells_len (xs : List Cel) : (xs.flatMap celCells).length = xs.length * 5 := by
 induction xs with
 | nil => rfl
 | cons t xs ih => rw [List.flatMap_cons, List.length_append, ih, List.length_cons]; simp [celCells]; omega
theorem cel_cell (xs : List Cel) : ∀ (k j : Nat) (y : Cel), xs[k]? = some y → j < 5 → (xs.flatMap celCells)[k * 5 + j]? = (celCells y)[j]? := by
 induction xs with
 | nil => intro k j y h; simp at h
 | cons a l ih =>
   intro k j y h hj
   rw [List.flatMap_cons]
   cases k with
   | zero =>
     simp at h
     subst h
     rw [Nat.zero_mul, Nat.zero_add, List.getElem?_append_left (by simp [celCells]; omega)]
   | succ k =>
     have ha : (celCells a).length = 5 := rfl
     rw [List.getElem?_append_right (by rw [ha]; omega), ha, show (k + 1) * 5 + j - 5 = k * 5 + j by omega]
     exact ih k j y (by simpa using h) hj
theorem cel_set (y : Cel) : ∀ (xs : List Cel) (i : Nat), i < xs.length → (((((xs.flatMap celCells).set (i * 5) (.string y.row)).set (i * 5 + 1) (.string y.col)).set (i * 5 + 2) (.int .i64 y.time)).set (i * 5 + 3) (.bool y.gone)).set (i * 5 + 4) (.string y.value) = (xs.set i y).flatMap celCells
 | [], i, h => by simp at h
 | a :: l, 0, _ => by simp [celCells]
 | a :: l, i + 1, h => by
   have ih := cel_set y l i (by simpa using h)
   have e : ∀ j, (i + 1) * 5 + j = (celCells a).length + (i * 5 + j) := fun j => by simp [celCells]; omega
   have e0 : (i + 1) * 5 = (celCells a).length + (i * 5) := by simp [celCells]; omega
   rw [List.flatMap_cons, List.set_cons_succ, List.flatMap_cons, e 1, e 2, e 3, e 4, e0]
   simp only [List.set_append_right _ _ (Nat.le_add_right _ _), Nat.add_sub_cancel_left]
   rw [ih]
def CelBlock (w : World) (g : Nat) (xs : List Cel) : Prop := w.heap[g]? = some (.cells (xs.flatMap celCells).toArray 41 (0, 0))
theorem CelBlock.cell {w : World} {g : Nat} {xs : List Cel} (h : CelBlock w g xs) {k : Nat} {y : Cel} (hk : xs[k]? = some y) : Cel5 w g k y := by
 have hc : ∀ j, j < 5 → w.cell? ⟨g, k * 5 + j, none⟩ = (celCells y)[j]? := fun j hj => by
   have h1 := cel_cell xs k j y hk hj
   unfold CelBlock at h
   simp only [World.cell?, h]
   simpa using h1
 exact ⟨hc 0 (by omega), hc 1 (by omega), hc 2 (by omega), hc 3 (by omega), hc 4 (by omega)⟩
theorem CelBlock.frozen {w : World} {g : Nat} {xs : List Cel} (h : CelBlock w g xs) (j : Nat) : w.frozen? ⟨g, j, none⟩ = false := by
 unfold CelBlock at h
 simp [World.frozen?, h]
theorem CelBlock.row {w : World} {g : Nat} {xs : List Cel} (h : CelBlock w g xs) {n : Nat} (hn : xs.length = n) : CelRow w (some ⟨g, 0, none⟩) n n xs := ⟨hn, Nat.le_refl _, fun k y hk => ⟨g, rfl, h.cell hk⟩⟩
theorem CelBlock.below {w w' : World} {g : Nat} {xs : List Cel} (h : CelBlock w g xs) (hb : Below w.heap.size w w') : CelBlock w' g xs := (hb.block g (Array.getElem?_eq_some_iff.1 h).1).trans h
theorem CelBlock.set {w : World} {g : Nat} {xs : List Cel} (h : CelBlock w g xs) (y : Cel) {i : Nat} (hi : i < xs.length) :
   CelBlock (((((w.setCell ⟨g, i * 5, none⟩ (.string y.row)).setCell ⟨g, i * 5 + 1, none⟩ (.string y.col)).setCell ⟨g, i * 5 + 2, none⟩ (.int .i64 y.time)).setCell ⟨g, i * 5 + 3, none⟩ (.bool y.gone)).setCell ⟨g, i * 5 + 4, none⟩ (.string y.value)) g (xs.set i y) := by
 unfold CelBlock at h ⊢
 rw [set_block _ (set_block _ (set_block _ (set_block _ (set_block (w := w) _ h)))), ← cel_set y xs i hi]
 simp
def rdRaw (l : List UInt8) (a : Nat) : Option (Nat × Nat × Nat × Nat) :=
 match getVarAt l (a : Int) with
 | none => none
 | some g1 => match getVarAt l ((a + g1.length : Nat) : Int) with
   | none => none
   | some g2 => match getVarAt l ((a + g1.length + g2.length : Nat) : Int) with
     | none => none
     | some g3 => if a + g1.length + g2.length + g3.length + varVal g2 + varVal g3 / 2 ≤ l.length then some (varVal g1, varVal g2, varVal g3, a + g1.length + g2.length + g3.length) else none
theorem rd_no1 {l : List UInt8} {a : Nat} (h : getVarAt l (a : Int) = none) : rdRaw l a = none := by unfold rdRaw; rw [h]
theorem rd_no2 {l g1 : List UInt8} {a : Nat} (h : getVarAt l (a : Int) = some g1) (h2 : getVarAt l ((a + g1.length : Nat) : Int) = none) : rdRaw l a = none := by unfold rdRaw; simp only [h, h2]
theorem rd_no3 {l g1 g2 : List UInt8} {a : Nat} (h : getVarAt l (a : Int) = some g1) (h2 : getVarAt l ((a + g1.length : Nat) : Int) = some g2) (h3 : getVarAt l ((a + g1.length + g2.length : Nat) : Int) = none) : rdRaw l a = none := by unfold rdRaw; simp only [h, h2, h3]
theorem rd_is {l g1 g2 g3 : List UInt8} {a : Nat} (h : getVarAt l (a : Int) = some g1) (h2 : getVarAt l ((a + g1.length : Nat) : Int) = some g2) (h3 : getVarAt l ((a + g1.length + g2.length : Nat) : Int) = some g3) :
   rdRaw l a = if a + g1.length + g2.length + g3.length + varVal g2 + varVal g3 / 2 ≤ l.length then some (varVal g1, varVal g2, varVal g3, a + g1.length + g2.length + g3.length) else none := by unfold rdRaw; simp only [h, h2, h3]
theorem get_pos {l g : List UInt8} {a : Nat} (h : getVarAt l (a : Int) = some g) : 1 ≤ g.length ∧ a + g.length ≤ l.length ∧ varVal g ≤ 4611686018427387903 := by
 obtain ⟨n, e, h1, h2, h3, h4, h5, h6⟩ := getVar_some h
 have e' : a = n := by omega
 subst e'
 refine ⟨?_, h6, h3⟩
 have : g ≠ [] := by
   rw [← h2]
   unfold putVar
   rw [if_pos (by omega)]
   exact var_ne _
 exact List.length_pos_iff.2 this
theorem rd_some {l : List UInt8} {a s m z a3 : Nat} (h : rdRaw l a = some (s, m, z, a3)) : a + 3 ≤ a3 ∧ a3 + m + z / 2 ≤ l.length ∧ s ≤ 4611686018427387903 ∧ m ≤ 4611686018427387903 ∧ z ≤ 4611686018427387903 := by
 cases h1 : getVarAt l (a : Int) with
 | none => rw [rd_no1 h1] at h; cases h
 | some g1 =>
   cases h2 : getVarAt l ((a + g1.length : Nat) : Int) with
   | none => rw [rd_no2 h1 h2] at h; cases h
   | some g2 =>
     cases h3 : getVarAt l ((a + g1.length + g2.length : Nat) : Int) with
     | none => rw [rd_no3 h1 h2 h3] at h; cases h
     | some g3 =>
       rw [rd_is h1 h2 h3] at h
       have p1 := get_pos h1
       have p2 := get_pos h2
       have p3 := get_pos h3
       split at h
       · simp only [Option.some.injEq, Prod.mk.injEq] at h
         omega
       · cases h
def Step (l : List UInt8) (a : Nat) (key : List UInt8) (x : Cel) (key' : List UInt8) (a' : Nat) : Prop :=
 ∃ s m z a3, rdRaw l a = some (s, m, z, a3) ∧ s ≤ key.length ∧ key' = key.take s ++ (l.drop a3).take m ∧ ReadIs key' x.row.data.toList x.col.data.toList x.time ∧ x.gone = decide (z % 2 = 1) ∧ x.value.data.toList = (l.drop (a3 + m)).take (z / 2) ∧ a' = a3 + m + z / 2
theorem cel_ext {x y : Cel} (h1 : x.row.data.toList = y.row.data.toList) (h2 : x.col.data.toList = y.col.data.toList) (h3 : x.time = y.time) (h4 : x.gone = y.gone) (h5 : x.value.data.toList = y.value.data.toList) : x = y := by
 obtain ⟨R, C, t, G, V⟩ := x
 obtain ⟨R', C', t', G', V'⟩ := y
 have ext : ∀ {a b : ByteArray}, a.data.toList = b.data.toList → a = b := fun {a b} h => by cases a; cases b; simp only at h; rw [Array.toList_inj.1 h]
 simp only at h1 h2 h3 h4 h5
 rw [ext h1, ext h2, h3, h4, ext h5]
theorem step_det {l key k1 k2 : List UInt8} {a a1 a2 : Nat} {x y : Cel} (h : Step l a key x k1 a1) (h' : Step l a key y k2 a2) : x = y ∧ k1 = k2 ∧ a1 = a2 := by
 obtain ⟨s, m, z, a3, r1, r2, r3, r4, r5, r6, r7⟩ := h
 obtain ⟨s', m', z', a3', q1, q2, q3, q4, q5, q6, q7⟩ := h'
 rw [r1] at q1
 simp only [Option.some.injEq, Prod.mk.injEq] at q1
 obtain ⟨rfl, rfl, rfl, rfl⟩ := q1
 have hk : k1 = k2 := by rw [r3, q3]
 subst hk
 obtain ⟨e1, e2, e3⟩ := read_one r4 q4
 exact ⟨cel_ext e1 e2 e3 (by rw [r5, q5]) (by rw [r6, q6]), rfl, by rw [r7, q7]⟩
theorem step_len {l key k1 : List UInt8} {a a1 : Nat} {x : Cel} (h : Step l a key x k1 a1) (hk : key.length ≤ a) : a + 3 ≤ a1 ∧ a1 ≤ l.length ∧ k1.length ≤ a1 := by
 obtain ⟨s, m, z, a3, r1, r2, r3, r4, r5, r6, r7⟩ := h
 have := rd_some r1
 refine ⟨by omega, by omega, ?_⟩
 rw [r3, List.length_append, List.length_take, List.length_take]
 omega
inductive Rd (l : List UInt8) : List Cel → List UInt8 → Nat → Prop
 | nil : Rd l [] [] 0
 | snoc {ys : List Cel} {key : List UInt8} {a : Nat} {x : Cel} {key' : List UInt8} {a' : Nat} : Rd l ys key a → Step l a key x key' a' → Rd l (ys ++ [x]) key' a'
theorem rd_len {l : List UInt8} {ys : List Cel} {key : List UInt8} {a : Nat} (h : Rd l ys key a) : key.length ≤ a ∧ a ≤ l.length ∧ 3 * ys.length ≤ a := by
 induction h with
 | nil => simp
 | snoc h s ih =>
   have := step_len s ih.1
   rw [List.length_append]
   simp only [List.length_cons, List.length_nil]
   omega
theorem read_small {l r c : List UInt8} {t : Int} (h : ReadIs l r c t) : r.length ≤ 16 ∧ c.length ≤ 16 := by
 rcases h with ⟨h1, _⟩ | ⟨rfl, rfl, _⟩
 · obtain ⟨a1, a2, _⟩ := keyOk_parts h1
   exact ⟨(name_parts a1).2.2, (name_parts a2).2.2⟩
 · simp
theorem step_fit {l key k1 : List UInt8} {a a1 : Nat} {x : Cel} (h : Step l a key x k1 a1) (hl : l.length ≤ 1048576) : x.row.size ≤ maxLen ∧ x.col.size ≤ maxLen ∧ x.value.size ≤ maxLen := by
 obtain ⟨s, m, z, a3, r1, r2, r3, r4, r5, r6, r7⟩ := h
 have h1 := read_small r4
 have h2 := congrArg List.length r6
 rw [List.length_take, List.length_drop] at h2
 have e1 : x.row.data.toList.length = x.row.size := by simp
 have e2 : x.col.data.toList.length = x.col.size := by simp
 have e3 : x.value.data.toList.length = x.value.size := by simp
 unfold maxLen
 omega
theorem rd_fit {l : List UInt8} {ys : List Cel} {key : List UInt8} {a : Nat} (h : Rd l ys key a) (hl : l.length ≤ 1048576) : Fit ys := by
 induction h with
 | nil => intro y hy; simp at hy
 | snoc h s ih =>
   intro y hy
   rcases List.mem_append.1 hy with hm | hm
   · exact ih y hm
   · rw [List.mem_singleton.1 hm]; exact step_fit s hl
theorem step_true {e : Nat} {xs : List Cel} {k : Nat} {x : Cel} (h : xs[k]? = some x) (hx : cellOk x = true) :
   Step (entries e 0 [] xs) (entries e 0 [] (xs.take k)).length (lastOf [] (xs.take k)) x (celKey x) (entries e 0 [] (xs.take (k + 1))).length := by
 obtain ⟨pre, post, last, h1, h2, h3, h4⟩ := entries_at e xs 0 [] k x h
 rw [Nat.zero_add] at h1
 have hlast : last = lastOf [] (xs.take k) := by
   cases k with
   | zero => rw [h3 rfl]; simp [lastOf]
   | succ k =>
     have hk : k < xs.length := by have := (List.getElem?_eq_some_iff.1 h).1; omega
     have hy : xs[k]? = some xs[k] := List.getElem?_eq_getElem hk
     rw [h4 _ (by omega) hy, last_step hy]
 obtain ⟨q1, q2, q3, q4, q5, q6, q7, q8⟩ := entry_parts e k last pre post hx rfl rfl rfl rfl rfl
 have hE : (entries e 0 [] (xs.take (k + 1))).length = pre.length + (entry e k last x).length := by rw [entries_step e h, List.length_append, ← h2, hlast]
 obtain ⟨z1, z2⟩ := size_half x
 have hlen : (pre ++ (entry e k last x ++ post)).length = pre.length + ((entry e k last x).length + post.length) := by rw [List.length_append, List.length_append]
 rw [hE, ← h2, ← hlast, h1]
 refine ⟨_, _, _, _, (rd_is q1 q2 q3).trans (if_pos ?_), ?_, ?_, ?_, ?_, ?_, ?_⟩
 · rw [varVal_var, varVal_var, z1, hlen]
   omega
 · rw [varVal_var]; exact q7
 · rw [varVal_var, varVal_var, q4, q6]
 · exact read_back (cel_keyOk hx)
 · rw [varVal_var, Bool.eq_iff_iff]
   simp [z2]
 · rw [varVal_var, varVal_var, z1, q5]
 · rw [varVal_var, varVal_var, z1]; omega
theorem rd_end (l : List UInt8) : rdRaw l l.length = none := by
 refine rd_no1 ?_
 cases h : getVarAt l (l.length : Int) with
 | none => rfl
 | some g =>
   have := get_pos h
   omega
theorem rd_block {e : Nat} {xs : List Cel} (hx : ∀ x ∈ xs, cellOk x = true) {ys : List Cel} {key : List UInt8} {a : Nat} (h : Rd (entries e 0 [] xs) ys key a) :
   ys.length ≤ xs.length ∧ ys = xs.take ys.length ∧ key = lastOf [] ys ∧ a = (entries e 0 [] ys).length := by
 induction h with
 | nil => simp [lastOf, entries]
 | @snoc ys key a x key' a' h s ih =>
   obtain ⟨i1, i2, i3, i4⟩ := ih
   by_cases hk : ys.length < xs.length
   · have hy : xs[ys.length]? = some xs[ys.length] := List.getElem?_eq_getElem hk
     have st := step_true (e := e) hy (hx _ (List.getElem_mem hk))
     rw [← i2, ← i3, ← i4] at st
     obtain ⟨rfl, rfl, rfl⟩ := step_det s st
     have e1 : ys ++ [xs[ys.length]] = xs.take (ys.length + 1) := by rw [List.take_succ_eq_append_getElem hk, ← i2]
     refine ⟨by simp; omega, ?_, by rw [lastOf_snoc], ?_⟩
     · rw [List.length_append]; exact e1
     · rw [e1]
   · have e1 : ys = xs := by rw [i2, List.take_of_length_le (by omega)]
     obtain ⟨_, _, _, _, r1, _⟩ := s
     rw [i4, e1, rd_end] at r1
     cases r1
def Ended (l : List UInt8) (ys : List Cel) : Prop := ∃ key a, Rd l ys key a ∧ ((∀ x k a', ¬ Step l a key x k a') ∨ ∃ x k a', Step l a key x k a' ∧ x.time < 0)
theorem ended_all {e : Nat} {xs : List Cel} (hx : ∀ x ∈ xs, cellOk x = true) {ys : List Cel} (h : Ended (entries e 0 [] xs) ys) : ys = xs := by
 obtain ⟨key, a, h1, h2⟩ := h
 obtain ⟨i1, i2, i3, i4⟩ := rd_block hx h1
 by_cases hk : ys.length < xs.length
 · exfalso
   have hy : xs[ys.length]? = some xs[ys.length] := List.getElem?_eq_getElem hk
   have hc := hx _ (List.getElem_mem hk)
   have st := step_true (e := e) hy hc
   rw [← i2, ← i3, ← i4] at st
   rcases h2 with h2 | ⟨x, k, a', s, ht⟩
   · exact h2 _ _ _ st
   · obtain ⟨rfl, _, _⟩ := step_det s st
     have := time_bd (keyOk_parts (cel_keyOk hc)).2.2
     omega
 · rw [i2, List.take_of_length_le (by omega)]
theorem step_no {l key : List UInt8} {a : Nat} (h : rdRaw l a = none) : ∀ x k a', ¬ Step l a key x k a' := by
 rintro x k a' ⟨_, _, _, _, r1, _⟩
 rw [h] at r1
 cases r1
theorem step_far {l key : List UInt8} {a s m z a3 : Nat} (h : rdRaw l a = some (s, m, z, a3)) (hs : key.length < s) : ∀ x k a', ¬ Step l a key x k a' := by
 rintro x k a' ⟨_, _, _, _, r1, r2, _⟩
 rw [h] at r1
 simp only [Option.some.injEq, Prod.mk.injEq] at r1
 omega

def Got (s : List UInt8) (every : Int) (r : List Cel) (ok : Bool) : Prop := (ok = true ∧ putBlock r every = s ∧ s ≠ []) ∨ (ok = false ∧ r = [] ∧ ∀ xs, putBlock xs every = s → s = [])
theorem got_one {s : List UInt8} {every : Int} {r r' : List Cel} {ok ok' : Bool} (h : Got s every r ok) (h' : Got s every r' ok') : r = r' ∧ ok = ok' := by
 rcases h with ⟨rfl, h1, h2⟩ | ⟨rfl, rfl, h1⟩ <;> rcases h' with ⟨rfl, h3, h4⟩ | ⟨rfl, rfl, h3⟩
 · exact ⟨putBlock_told (h1.trans h3.symm) (by rw [h1]; exact h2), rfl⟩
 · exact absurd (h3 _ h1) h2
 · exact absurd (h1 _ h3) h4
 · exact ⟨rfl, rfl⟩
theorem block_parts (xs : List Cel) (e : Nat) (hl : xs.length ≤ 50) : ∃ q : Nat, getFix (block xs e) ((block xs e).length - 2 : Int) 2 = (q : Int) ∧ (entries e 0 [] xs).length + 2 * (q + 1) = (block xs e).length ∧ (block xs e).take (entries e 0 [] xs).length = entries e 0 [] xs := by
 obtain ⟨s1, s2⟩ := starts_len e xs 0 0 []
 have hb : block xs e = (entries e 0 [] xs ++ startsB e 0 0 [] xs) ++ fixB ((startsB e 0 0 [] xs).length / 2) 2 := by unfold block; simp
 have hL : (block xs e).length = (entries e 0 [] xs).length + (startsB e 0 0 [] xs).length + 2 := by rw [hb, List.length_append, List.length_append, fix_length]
 refine ⟨(startsB e 0 0 [] xs).length / 2, ?_, by omega, ?_⟩
 · have e1 : ((block xs e).length - 2 : Int) = (((entries e 0 [] xs ++ startsB e 0 0 [] xs).length : Nat) : Int) := by rw [List.length_append]; omega
   have e2 : getFix (block xs e) (((entries e 0 [] xs ++ startsB e 0 0 [] xs).length : Nat) : Int) ((2 : Nat) : Int) = fixVal (((block xs e).drop (entries e 0 [] xs ++ startsB e 0 0 [] xs).length).take 2) := by
     unfold getFix
     rw [if_pos (by rw [List.length_append]; omega), Int.toNat_natCast, Int.toNat_natCast]
   rw [e1]
   refine e2.trans ?_
   rw [hb, List.drop_left, List.take_of_length_le (by rw [fix_length]; omega), fixVal_fix]
   have : (startsB e 0 0 [] xs).length / 2 % 2 ^ (8 * 2) = (startsB e 0 0 [] xs).length / 2 := Nat.mod_eq_of_lt (by omega)
   rw [this]
 · unfold block
   rw [List.take_left]
theorem block_ok {xs : List Cel} {every : Int} (h : putBlock xs every ≠ []) : ∃ e : Nat, every = e ∧ 1 ≤ e ∧ e ≤ 16 ∧ xs.length ≤ 50 ∧ cellsOk xs = true ∧ putBlock xs every = block xs e := by
 unfold putBlock at h ⊢
 cases h1 : blockOk xs every
 · rw [if_neg (by simp [h1])] at h
   exact absurd rfl h
 · unfold blockOk at h1
   simp only [Bool.and_eq_true, decide_eq_true_eq] at h1
   obtain ⟨⟨⟨a1, a2⟩, a3⟩, a4⟩ := h1
   exact ⟨every.toNat, by omega, by omega, by omega, a1, a2, by rw [if_pos rfl]⟩
theorem all_ok {xs : List Cel} (h : cellsOk xs = true) : ∀ x ∈ xs, cellOk x = true := fun x hm => by obtain ⟨j, hj⟩ := List.mem_iff_getElem?.1 hm; exact cells_ok h hj
theorem got_no {s : List UInt8} {every : Int} (h : getFix s (s.length - 2 : Int) 2 < 0 ∨ (s.length : Int) - 2 * (getFix s (s.length - 2 : Int) 2 + 1) < 0) : Got s every [] false := by
 refine .inr ⟨rfl, rfl, fun xs hx => ?_⟩
 cases hs : s with
 | nil => rfl
 | cons c r =>
   exfalso
   have hne : putBlock xs every ≠ [] := by rw [hx, hs]; simp
   obtain ⟨e, _, _, _, h50, _, hb⟩ := block_ok hne
   obtain ⟨q, h1, h2, _⟩ := block_parts xs e h50
   rw [← hb, hx] at h1 h2
   rw [h1] at h
   omega
theorem got_of {s : List UInt8} {every : Int} {q n : Nat} {ys : List Cel} (hq : getFix s (s.length - 2 : Int) 2 = (q : Int)) (hn : n + 2 * (q + 1) = s.length) (hr : (∃ key a, Rd (s.take n) ys key a ∧ 50 < ys.length) ∨ Ended (s.take n) ys) :
   (putBlock ys every = s → Got s every ys true) ∧ (putBlock ys every ≠ s → Got s every [] false) := by
 have hs : s ≠ [] := by intro e; rw [e] at hn; simp at hn
 refine ⟨fun h => .inl ⟨rfl, h, hs⟩, fun h => .inr ⟨rfl, rfl, fun xs hx => ?_⟩⟩
 exfalso
 obtain ⟨e, _, _, _, h50, hok, hb⟩ := block_ok (xs := xs) (every := every) (by rw [hx]; exact hs)
 obtain ⟨q', h1, h2, h3⟩ := block_parts xs e h50
 rw [← hb, hx] at h1 h2 h3
 rw [hq] at h1
 have hqq : q = q' := by omega
 subst hqq
 have hnn : n = (entries e 0 [] xs).length := by omega
 rw [hnn, h3] at hr
 rcases hr with ⟨key, a, r1, r2⟩ | hr
 · have := (rd_block (all_ok hok) r1).1
   omega
 · have := ended_all (all_ok hok) hr
   subst this
   exact h hx
theorem got_few {s : List UInt8} {every : Int} {r : List Cel} {ok : Bool} (h : Got s every r ok) : r.length ≤ 50 ∧ cellsOk r = true := by
 rcases h with ⟨rfl, h1, h2⟩ | ⟨rfl, rfl, h1⟩
 · obtain ⟨e, _, _, _, h50, hok, _⟩ := block_ok (xs := r) (every := every) (by rw [h1]; exact h2)
   exact ⟨h50, hok⟩
 · exact ⟨by simp, rfl⟩
theorem ok_small {x : Cel} (h : cellOk x = true) : x.row.size ≤ 16 ∧ x.col.size ≤ 16 ∧ x.value.size ≤ 30 := by
 unfold cellOk at h
 simp only [Bool.and_eq_true, decide_eq_true_eq] at h
 obtain ⟨⟨⟨⟨h1, h2⟩, h3⟩, h4⟩, h5⟩ := h
 have e1 : x.row.data.toList.length = x.row.size := by simp
 have e2 : x.col.data.toList.length = x.col.size := by simp
 have := (name_parts h1).2.2
 have := (name_parts h2).2.2
 omega
theorem fit_ok {xs : List Cel} (h : cellsOk xs = true) : Fit xs := fun y hy => by
 have := ok_small (all_ok h y hy)
 unfold maxLen
 omega
theorem one_part (s : ByteArray) (k : Nat) (h : k < s.size) : s.extract k (k + 1) = ⟨#[s[k]]⟩ := by
 apply bytes_ext
 simp only [ByteArray.data_extract, Array.toList_extract, List.extract_eq_take_drop]
 have e : k + 1 - k = 1 := by omega
 rw [e, List.drop_eq_getElem_cons (by simpa using h)]
 rfl
theorem drop_at (s : ByteArray) (a k : Nat) (h : a + k < s.size) : (s.data.toList.drop a)[k]? = some s[a + k] := by
 rw [List.getElem?_drop, byte_at s (a + k) h]

def VarRead (w : World) (p : Nat) (s : ByteArray) (a : Int) (e : Ending) (w' : World) : Prop :=
 w.grownBy w' (some p) ∧ ((∃ g, getVarAt s.data.toList a = some g ∧ e = .returned (.tuple #[.int .i64 (varVal g : Nat), .bool true]) ∧ RdAt w' p s (a + (g.length : Int))) ∨ (getVarAt s.data.toList a = none ∧ e = .returned (.tuple #[.int .i64 0, .bool false])))

theorem or_group (v k c : Nat) (hk : k < 9) (hv : v < 2 ^ (7 * k)) : bits .or .i64 (v : Int) (wrap64 (((c : Int) % 128) * 2 ^ (7 * k))) = ((v + 2 ^ (7 * k) * (c % 128) : Nat) : Int) := by
 have hp : 2 ^ (7 * k) ≤ 2 ^ 56 := Nat.pow_le_pow_right (by omega) (by omega)
 have hm : 2 ^ (7 * k) * (c % 128) ≤ 2 ^ 56 * 127 := Nat.mul_le_mul hp (by omega)
 have e : (((c : Int) % 128) * 2 ^ (7 * k)) = ((2 ^ (7 * k) * (c % 128) : Nat) : Int) := by rw [Int.natCast_mul, Int.mul_comm]; simp
 have e2 : wrap64 ((2 ^ (7 * k) * (c % 128) : Nat) : Int) = ((2 ^ (7 * k) * (c % 128) : Nat) : Int) := by unfold wrap64; omega
 rw [e, e2, i64_or_nat _ _ (by omega) (by omega), Nat.or_comm, ← Nat.two_pow_add_eq_or_of_lt hv, Nat.add_comm]

theorem varVal_take (s : ByteArray) (a k : Nat) (h : a + k < s.size) : varVal ((s.data.toList.drop a).take (k + 1)) = varVal ((s.data.toList.drop a).take k) + 2 ^ (7 * k) * (s[a + k].toNat % 128) := by
 have hk : k < (s.data.toList.drop a).length := by simp; omega
 rw [List.take_succ_eq_append_getElem hk, varVal_snoc, List.length_take]
 have e : (s.data.toList.drop a)[k] = s[a + k] := by rw [List.getElem_drop]; rfl
 have e2 : min k (s.data.toList.drop a).length = k := by omega
 rw [e, e2]
theorem varVal_take_lt (l : List UInt8) (k : Nat) : varVal (l.take k) < 2 ^ (7 * k) := by
 refine Nat.lt_of_lt_of_le (varVal_lt _) ?_
 exact Nat.pow_le_pow_right (by omega) (by have := List.length_take_le k l; omega)
theorem varVal_take_lt63 (l : List UInt8) (k : Nat) (h : k ≤ 9) : (varVal (l.take k) : Int) ≤ 9223372036854775807 := by
 have h1 := varVal_take_lt l k
 have h2 : 2 ^ (7 * k) ≤ 2 ^ 63 := Nat.pow_le_pow_right (by omega) (by omega)
 omega

theorem or_noughts : bits .or .i64 0 (wrap64 0) = 0 := by
 have e : wrap64 0 = 0 := by unfold wrap64; omega
 have := i64_or_nat 0 0 (by omega) (by omega)
 rw [e]; simpa using this
theorem head_at (s : ByteArray) (k : Nat) (h : k < s.size) : (s.extract k (k + 1)).size = 1 ∧ ∀ h0 : 0 < (s.extract k (k + 1)).size, (s.extract k (k + 1))[0] = s[k] := by
 have e := one_part s k h
 rw [e]
 exact ⟨rfl, fun _ => rfl⟩

set_option maxHeartbeats 1000000 in
set_option maxRecDepth 100000 in
theorem takeVar_in (p : Nat) (s : ByteArray) (a : Nat) (w : World) (h : RdAt w p s a) (hs : s.size ≤ maxLen) (ha : a ≤ s.size) :
   Calls Tryz.prog 155 #[.pointer (some ⟨p, 0, none⟩)] w (VarRead w p s a) := by
 have HH := Lib.hid h
 have hll : s.data.toList.length = s.size := by simp
 have HLL := Lib.hid hll
 clear h hll
 go_enter Tryz.func155, Tryz.ntmps155
 go_wp2_with fail
 go_loopw [4, 8] (fun n i wr => ∃ k : Nat, k ≤ 9 ∧ a + k ≤ s.size ∧ i = .int .i64 k ∧ n = .int .i64 (varVal ((s.data.toList.drop a).take k) : Nat) ∧ Hid (More (s.data.toList.drop a) k ∧ RdAt wr p s ((a + k : Nat) : Int) ∧ w.grownBy wr (some p))) (fun _ i _ => 9 - (intOf i).toNat)
 case atStart => exact ⟨0, by omega, by omega, rfl, rfl, ⟨⟨Nat.zero_le _, fun c hc => by simp at hc⟩, HH.out, grown_refl _ _⟩⟩
 case round =>
   obtain ⟨k, hk, hak, rfl, rfl, HX⟩ := hrel
   by_cases h9 : k < 9
   · by_cases hlt : a + k < s.size
     · go_wp2_with fail
       refine (take_yes p s (a + k) 1 _ HX.out.2.1 hs (by omega)).mono ?_
       rintro e w1 ⟨rfl, hr, hg⟩
       have HX2 := Lib.hid (And.intro hr (HX.out.2.2.trans hg))
       clear hr hg
       have hv := varVal_take_lt (s.data.toList.drop a) k
       have HV := Lib.hid (varVal_take s a k hlt)
       have HO := Lib.hid (or_group _ k s[a + k].toNat h9 hv)
       have HC := Lib.hid (drop_at s a k hlt)
       have hb1 := varVal_take_lt63 (s.data.toList.drop a) (k + 1) (by omega)
       have hh := head_at s (a + k) hlt
       clear hv
       generalize s[a + k] = c at HV HO HC hh
       generalize s.extract (a + k) (a + k + 1) = q at hh ⊢
       have hq : 0 < q.size := by omega
       have hqc := hh.2 hq
       clear hh
       subst hqc
       have hc := q[0].toNat_lt
       rw [← HV.out] at HO
       by_cases h00 : k = 0 ∧ q[0].toNat = 0
       · obtain ⟨rfl, hz⟩ := h00
         have HY := Lib.hid (getVar_yes (by rw [HLL.out]; exact ha) HX.out.1 (by omega) HC.out (by omega) (by omega) (by rw [HV.out, hz]; simp [varVal]))
         have HV0 := Lib.hid (show varVal ((s.data.toList.drop a).take 1) = 0 by have := HV.out; rw [hz] at this; simpa [varVal] using this)
         have e0 : ((varVal ((s.data.toList.drop a).take 0) : Nat) : Int) = 0 := by simp [varVal]
         rw [e0]
         have z1 : ((q[0].toNat : Nat) : Int) = 0 := by omega
         have z2 : bits .or .i64 0 (wrap64 0) = 0 := or_noughts
         clear e0 hz hb1 HO HV
         go_wp2
         go_ret2
         refine ⟨HX2.out.2, Or.inl ⟨_, HY.out.1, ?_, ?_⟩⟩
         · rw [HV0.out]; rfl
         · have hl1 : ((s.data.toList.drop a).take (0 + 1)).length = 1 := by rw [List.length_take, List.length_drop, HLL.out]; omega
           rw [hl1]; exact HX2.out.1
       · have ho := HO.out
         obtain ⟨V, eV⟩ : ∃ V : Int, ((varVal ((s.data.toList.drop a).take k) : Nat) : Int) = V := ⟨_, rfl⟩
         rw [eV] at ho ⊢
         obtain ⟨V1, eV1⟩ : ∃ V1 : Int, ((varVal ((s.data.toList.drop a).take (k + 1)) : Nat) : Int) = V1 := ⟨_, rfl⟩
         rw [eV1] at ho hb1
         have EV1 := Lib.hid eV1
         have HB1 := Lib.hid hb1
         have H00 := Lib.hid h00
         clear eV eV1 hb1 HV HO h00
         by_cases hmore : 128 ≤ q[0].toNat
         · have HO := Lib.hid ho
           clear ho
           go_wp2_with fail
           go_roundw
           case rel => exact ⟨k + 1, by omega, by omega, by go_num, congrArg (Value.int IntKind.i64) (by rw [HO.out, EV1.out]), ⟨HX.out.1.succ HC.out hmore, HX2.out.1, HX2.out.2⟩⟩
           case measure => simp [intOf]; omega
         · by_cases hz : q[0].toNat = 0
           · have hk0 : 0 < k := by have := H00.out; omega
             have hk1 : (0 : Int) < (k : Int) := by omega
             have HB := Lib.hid (getVar_bad (by rw [HLL.out]; exact ha) HX.out.1 h9 HC.out (by omega) (Or.inl ⟨hz, hk0⟩))
             have z1 : (((q[0].toNat : Nat) : Int) == 0) = true := by simp; omega
             have HO := Lib.hid ho
             clear hz ho
             go_wp2
             go_ret2
             exact ⟨HX2.out.2, Or.inr ⟨HB.out, rfl⟩⟩
           · have z1 : (((q[0].toNat : Nat) : Int) == 0) = false := by simp; omega
             by_cases hmax : 4611686018427387903 < V1
             · have HB := Lib.hid (getVar_bad (by rw [HLL.out]; exact ha) HX.out.1 h9 HC.out (by omega) (Or.inr (by have := EV1.out; omega)))
               have HZ := Lib.hid hz
               clear hz
               go_wp2
               go_ret2
               exact ⟨HX2.out.2, Or.inr ⟨HB.out, rfl⟩⟩
             · have HY := Lib.hid (getVar_yes (by rw [HLL.out]; exact ha) HX.out.1 h9 HC.out (by omega) (by omega) (by have := EV1.out; omega))
               have HZ := Lib.hid hz
               clear hz
               go_wp2
               go_ret2
               refine ⟨HX2.out.2, Or.inl ⟨_, HY.out.1, ?_, ?_⟩⟩
               · rw [EV1.out]; rfl
               · have hl1 : ((s.data.toList.drop a).take (k + 1)).length = k + 1 := by rw [List.length_take, List.length_drop, HLL.out]; omega
                 rw [hl1]; exact HX2.out.1
     · have HB := Lib.hid (getVar_none (by rw [HLL.out]; exact ha) HX.out.1 hk (Or.inl (by rw [List.length_drop, HLL.out]; omega)))
       go_wp2_with fail
       refine (take_no p s _ 1 _ HX.out.2.1 hs (by omega)).mono ?_
       rintro e w1 ⟨rfl, m, rfl⟩
       go_wp2
       go_ret2
       exact ⟨HX.out.2.2.trans (grown_drewN _ _ _), Or.inr ⟨HB.out, rfl⟩⟩
   · have HB := Lib.hid (getVar_none (by rw [HLL.out]; exact ha) HX.out.1 hk (Or.inr (by omega)))
     go_wp2
     go_ret2
     exact ⟨HX.out.2.2, Or.inr ⟨HB.out, rfl⟩⟩

def VarOut (w : World) (l : List UInt8) (a : Int) (e : Ending) (w' : World) : Prop := e = .returned (.tuple #[.int .i64 (getVar1 l a), .int .i64 (getVar2 l a)]) ∧ Below w.heap.size w w'
theorem getVar1_some {l g : List UInt8} {a : Int} (h : getVarAt l a = some g) : getVar1 l a = varVal g ∧ getVar2 l a = a + g.length := by unfold getVar1 getVar2; rw [h]; exact ⟨rfl, rfl⟩
theorem getVar1_none {l : List UInt8} {a : Int} (h : getVarAt l a = none) : getVar1 l a = 0 ∧ getVar2 l a = -1 := by unfold getVar1 getVar2; rw [h]; exact ⟨rfl, rfl⟩
theorem ret_ints {a b c d : Int} (h1 : a = b) (h2 : c = d) : Ending.returned (.tuple #[.int .i64 a, .int .i64 c]) = .returned (.tuple #[.int .i64 b, .int .i64 d]) := by rw [h1, h2]
theorem fixVal_take (s : ByteArray) (k : Nat) (h : k < s.size) : fixVal (s.data.toList.take (k + 1)) = fixVal (s.data.toList.take k) + 2 ^ (8 * k) * s[k].toNat := by
 rw [take_snoc s k h, fixVal_snoc, List.length_take]
 have e2 : min k s.data.toList.length = k := by simp; omega
 rw [e2]
theorem fixVal_take_lt (l : List UInt8) (k : Nat) : fixVal (l.take k) < 2 ^ (8 * k) := by
 refine Nat.lt_of_lt_of_le (fixVal_lt _) ?_
 exact Nat.pow_le_pow_right (by omega) (by have := List.length_take_le k l; omega)
theorem part_list (s : ByteArray) (a b : Nat) : (s.extract a (a + b)).data.toList = (s.data.toList.drop a).take b := by
 simp only [ByteArray.data_extract, Array.toList_extract, List.extract_eq_take_drop]
 congr 1
 omega

theorem or_byte (v k c : Nat) (hk : k < 4) (hv : v < 2 ^ (8 * k)) (hc : c < 256) : bits .or .i64 (v : Int) (wrap64 ((c : Int) * 2 ^ (8 * k))) = ((v + 2 ^ (8 * k) * c : Nat) : Int) := by
 have hp : 2 ^ (8 * k) ≤ 2 ^ 24 := Nat.pow_le_pow_right (by omega) (by omega)
 have hm : 2 ^ (8 * k) * c ≤ 2 ^ 24 * 256 := Nat.mul_le_mul hp (by omega)
 have e : (c : Int) * 2 ^ (8 * k) = ((2 ^ (8 * k) * c : Nat) : Int) := by rw [Int.natCast_mul, Int.mul_comm]; simp
 have e2 : wrap64 ((2 ^ (8 * k) * c : Nat) : Int) = ((2 ^ (8 * k) * c : Nat) : Int) := by unfold wrap64; omega
 rw [e, e2, i64_or_nat _ _ (by omega) (by omega), Nat.or_comm, ← Nat.two_pow_add_eq_or_of_lt hv, Nat.add_comm]

set_option maxHeartbeats 400000 in
theorem takeFix_yes {T : Nat} (p : Nat) (s : ByteArray) (a b : Nat) (w : World) (h : RdT T w p s a) (hs : s.size ≤ maxLen) (h1 : 1 ≤ b) (h4 : b ≤ 4) (hn : a + b ≤ s.size) :
   Calls Tryz.prog 135 #[.pointer (some ⟨p, 0, none⟩), .int .i64 b] w fun e w' => e = .returned (.tuple #[.int .i64 (fixVal ((s.data.toList.drop a).take b)), .bool true]) ∧ RdT T w' p s (a + b : Nat) ∧ w.grownBy w' (some p) := by
 have HH := Lib.hid h
 clear h
 go_enter Tryz.func135, Tryz.ntmps135
 go_wp2_with fail
 refine (take_yes p s a b _ HH.out hs hn).mono ?_
 rintro e w1 ⟨rfl, hr, hg⟩
 have HX := Lib.hid (And.intro hr hg)
 clear hr hg
 unfold maxLen at hs
 have hz : (s.extract a (a + b)).size = b := by rw [ByteArray.size_extract]; omega
 have hq := part_list s a b
 generalize s.extract a (a + b) = q at hz hq ⊢
 have HQ := Lib.hid hq
 have hz1 : q.size ≤ 4 := by omega
 have HZ := Lib.hid hz
 clear hq hz
 go_wp2_with fail
 go_loop [8, 26] (fun n i => ∃ k : Nat, k ≤ q.size ∧ i = .int .i64 k ∧ n = .int .i64 (fixVal (q.data.toList.take k))) (fun _ i => q.size - (intOf i).toNat)
 case atStart => exact ⟨0, Nat.zero_le _, rfl, rfl⟩
 case round =>
   obtain ⟨k, hk, rfl, rfl⟩ := hrel
   by_cases hlt : k < q.size
   · have HV := Lib.hid (fixVal_take q k hlt)
     have hv := fixVal_take_lt q.data.toList k
     have hc := q[k].toNat_lt
     have HO := Lib.hid (or_byte _ k q[k].toNat (by omega) hv (by omega))
     have i1 : (k : Int) < (q.size : Int) := by omega
     clear hv
     go_wp2
     go_round
     case rel => exact ⟨k + 1, by omega, by go_num, congrArg (Value.int IntKind.i64) (by rw [HO.out, HV.out])⟩
     case measure => simp [intOf]; omega
   · obtain rfl : k = q.size := by omega
     have e0 : q.data.toList.take q.size = q.data.toList := List.take_of_length_le (by simp)
     rw [e0]
     clear e0
     go_wp2
     go_ret2
     exact ⟨congrArg (fun l => Ending.returned (.tuple #[.int .i64 (fixVal l : Nat), .bool true])) HQ.out, HX.out.1, HX.out.2⟩

set_option maxHeartbeats 400000 in
theorem takeFix_no {T : Nat} (p : Nat) (s : ByteArray) (a b : Int) (w : World) (h : RdT T w p s a) (hs : s.size ≤ maxLen) (hn : b < 1 ∨ 4 < b ∨ a < 0 ∨ s.size < a ∨ s.size - a < b) :
   Calls Tryz.prog 135 #[.pointer (some ⟨p, 0, none⟩), .int .i64 b] w fun e w' => e = .returned (.tuple #[.int .i64 0, .bool false]) ∧ ∃ n, w' = w.drewN n := by
 have HH := Lib.hid h
 have HN := Lib.hid hn
 clear h hn
 by_cases h1 : b < 1
 · go_enter Tryz.func135, Tryz.ntmps135
   go_wp2
   go_ret2
   exact ⟨rfl, 0, rfl⟩
 · by_cases h4 : 4 < b
   · go_enter Tryz.func135, Tryz.ntmps135
     go_wp2
     go_ret2
     exact ⟨rfl, 0, rfl⟩
   · go_enter Tryz.func135, Tryz.ntmps135
     go_wp2_with fail
     refine (take_no p s a b _ HH.out hs (by have := HN.out; omega)).mono ?_
     rintro e w1 ⟨rfl, m, rfl⟩
     go_wp2
     go_ret2
     exact ⟨rfl, _, rfl⟩
end Go.Proofs.YtkomnnijnggbpaaGreatDoor
/- Plain mathematics of the program's way to pack: where four bytes stood last, told bytes cut at 127, what is read token by token. -/
namespace Go.Proofs.YtkomnnijnggbpaaGreatDoor
set_option linter.unusedVariables false

theorem runFrom_ends (l : List UInt8) (i far : Nat) : ∀ f n, runFrom l i far n f = n + f ∨ ¬ (i + runFrom l i far n f < l.length ∧ l[i + runFrom l i far n f]? = l[i + runFrom l i far n f - far]?)
 | 0, n => Or.inl rfl
 | f + 1, n => by
   rw [runFrom]
   split
   · rename_i h
     rcases runFrom_ends l i far f (n + 1) with h1 | h1
     · left; omega
     · exact Or.inr h1
   · rename_i h
     exact Or.inr h
theorem runLen_in (l : List UInt8) (i far : Nat) (hi : i ≤ l.length) : i + runLen l i far ≤ l.length := by
 by_cases h : runLen l i far = 0
 · omega
 · have := (runLen_same l i far (runLen l i far - 1) (by omega)).1
   omega
theorem shared_run (l : List UInt8) (i far : Nat) (h1 : 1 ≤ far) (hf : far ≤ i) (hi : i ≤ l.length) : shared (l.drop (i - far)) ((l.drop i).take 67) = runLen l i far := by
 have h67 := runLen_le l i far
 have hin := runLen_in l i far hi
 refine shared_eq _ _ _ (by rw [List.length_drop]; omega) (by rw [List.length_take, List.length_drop]; omega) (fun j hj => ?_) ?_
 · have h := (runLen_same l i far j hj).2
   rw [List.getElem?_drop, List.getElem?_take, if_pos (by omega), List.getElem?_drop, h]
   congr 1
   omega
 · rcases runFrom_ends l i far 67 0 with h | h
   · right; left
     rw [List.length_take, List.length_drop]
     have : runLen l i far = 67 := by unfold runLen; omega
     omega
   · change ¬ (i + runLen l i far < l.length ∧ l[i + runLen l i far]? = l[i + runLen l i far - far]?) at h
     by_cases h2 : i + runLen l i far < l.length
     · right
       by_cases h3 : runLen l i far = 67
       · left
         rw [List.length_take, List.length_drop]; omega
       · right
         rw [List.getElem?_drop, List.getElem?_take, if_pos (by omega), List.getElem?_drop]
         intro e
         apply h
         refine ⟨h2, ?_⟩
         rw [← e]
         congr 1
         omega
     · right; left
       rw [List.length_take, List.length_drop]; omega

def four (l : List UInt8) (p : Nat) : List UInt8 := (l.drop p).take 4
theorem run_four (l : List UInt8) (i far : Nat) (hf : far ≤ i) (h : 4 ≤ runLen l i far) : four l (i - far) = four l i := by
 unfold four
 apply List.ext_getElem?
 intro j
 rw [List.getElem?_take, List.getElem?_take]
 split
 · have h2 := (runLen_same l i far j (by omega)).2
   rw [List.getElem?_drop, List.getElem?_drop, h2]
   congr 1
   omega
 · rfl
theorem best_nil (l : List UInt8) (i : Nat) : ∀ f, (∀ g, 1 ≤ g → g ≤ f → runLen l i g < 4) → bestTo l i f = (0, 0)
 | 0, _ => rfl
 | f + 1, h => by
   rw [bestTo, if_neg (fun hc => by have := h (f + 1) (by omega) (by omega); omega)]
   exact best_nil l i f (fun g h1 h2 => h g h1 (by omega))
theorem best_near (l : List UInt8) (i f : Nat) (hf : f ≤ i) (h : ∀ p, i - f ≤ p → p < i → four l p ≠ four l i) : bestTo l i f = (0, 0) := by
 refine best_nil l i f (fun g h1 h2 => ?_)
 by_cases h4 : 4 ≤ runLen l i g
 · exact absurd (run_four l i g (by omega) h4) (h (i - g) (by omega) (by omega))
 · omega
theorem copy_end (l : List UInt8) (i : Nat) (hi : i ≤ l.length) (h : l.length < i + 4) : ¬ 0 < (copyAt l i).1 := by
 intro hc
 have := copyAt_ok l i hc
 omega
theorem best_full (l : List UInt8) (i : Nat) (hi : i ≤ l.length) (f : Nat) (h : (bestTo l i f).1 = min 67 (l.length - i)) : ∀ d, bestTo l i (f + d) = bestTo l i f
 | 0 => rfl
 | d + 1 => by
   have ih := best_full l i hi f h d
   have h67 := runLen_le l i (f + d + 1)
   have hin := runLen_in l i (f + d + 1) hi
   rw [← Nat.add_assoc, bestTo, ih, if_neg (fun hc => by omega)]

def chunks (t : List UInt8) : List Tok := if h : t.length ≤ 127 then flush t else ⟨t.take 127, 0, 0⟩ :: chunks (t.drop 127)
termination_by t.length
decreasing_by rw [List.length_drop]; omega
theorem chunks_few {t : List UInt8} (h : t.length ≤ 127) : chunks t = flush t := by rw [chunks, dif_pos h]
theorem chunks_more {t : List UInt8} (h : ¬ t.length ≤ 127) : chunks t = ⟨t.take 127, 0, 0⟩ :: chunks (t.drop 127) := by rw [chunks, dif_neg h]
theorem chunks_len : ∀ (n : Nat) (t : List UInt8), t.length ≤ n → (chunks t).length ≤ t.length
 | 0, t, h => by rw [chunks_few (by omega)]; unfold flush; split <;> simp_all
 | n + 1, t, h => by
   by_cases h1 : t.length ≤ 127
   · rw [chunks_few h1]; unfold flush; split
     · simp
     · rename_i h2; have := List.length_pos_iff.2 h2; simp; omega
   · rw [chunks_more h1]
     have := chunks_len n (t.drop 127) (by rw [List.length_drop]; omega)
     rw [List.length_drop] at this
     rw [List.length_cons]; omega
theorem toks_chunks (l : List UInt8) (rest : List Tok) (j : Nat) (hj : j ≤ l.length) (hend : ∀ t, toksFrom l j t = flush t ++ rest) : ∀ (d i : Nat) (t : List UInt8), j - i ≤ d → i ≤ j → t.length ≤ 127 → (∀ p, i ≤ p → p < j → ¬ 0 < (copyAt l p).1) → toksFrom l i t = chunks (t ++ (l.drop i).take (j - i)) ++ rest := by
 intro d
 induction d with
 | zero =>
   intro i t hd hi ht hn
   obtain rfl : i = j := by omega
   rw [hend, show i - i = 0 by omega, List.take_zero, List.append_nil, chunks_few ht]
 | succ d ih =>
   intro i t hd hi ht hn
   by_cases e : i = j
   · subst e
     rw [hend, show i - i = 0 by omega, List.take_zero, List.append_nil, chunks_few ht]
   · have hil : i < l.length := by omega
     have hnc := hn i (Nat.le_refl _) (by omega)
     have hd1 : (l.drop i).take (j - i) = l[i] :: (l.drop (i + 1)).take (j - (i + 1)) := by
       rw [List.drop_eq_getElem_cons hil, show j - i = (j - (i + 1)) + 1 by omega, List.take_succ_cons]
     rw [toksFrom, dif_pos hil, dif_neg hnc]
     split
     · rename_i h127
       rw [ih (i + 1) [l[i]] (by omega) (by omega) (by simp) (fun p h1 h2 => hn p (by omega) h2), hd1]
       rw [chunks_more (t := t ++ l[i] :: (l.drop (i + 1)).take (j - (i + 1))) (by rw [List.length_append, List.length_cons]; omega)]
       have e1 : ∀ x : List UInt8, (t ++ x).take 127 = t := fun x => by rw [← h127]; exact List.take_left ..
       have e2 : ∀ x : List UInt8, (t ++ x).drop 127 = x := fun x => by rw [← h127]; exact List.drop_left ..
       rw [e1, e2]
       rfl
     · rename_i h127
       rw [ih (i + 1) (t ++ [l[i]]) (by omega) (by omega) (by rw [List.length_append, List.length_singleton]; omega) (fun p h1 h2 => hn p (by omega) h2), hd1, List.append_assoc]
       rfl
theorem toks_copied (l : List UInt8) (i j : Nat) (hi : i ≤ j) (hj : j < l.length) (hn : ∀ p, i ≤ p → p < j → ¬ 0 < (copyAt l p).1) (hc : 0 < (copyAt l j).1) : toksFrom l i [] = chunks ((l.drop i).take (j - i)) ++ (⟨[], (copyAt l j).1, (copyAt l j).2⟩ :: toksFrom l (j + (copyAt l j).1) []) := by
 have := toks_chunks l (⟨[], (copyAt l j).1, (copyAt l j).2⟩ :: toksFrom l (j + (copyAt l j).1) []) j (by omega) (fun t => by rw [toksFrom, dif_pos hj, dif_pos hc]) (j - i) i [] (by omega) hi (by simp) hn
 simpa using this
theorem toks_left (l : List UInt8) (i : Nat) (hi : i ≤ l.length) (hn : ∀ p, i ≤ p → p < l.length → ¬ 0 < (copyAt l p).1) : toksFrom l i [] = chunks (l.drop i) := by
 have := toks_chunks l [] l.length (Nat.le_refl _) (fun t => by rw [toksFrom, dif_neg (by omega)]; simp) (l.length - i) i [] (by omega) hi (by simp) hn
 rw [List.append_nil, List.nil_append, List.take_of_length_le (by rw [List.length_drop]; omega)] at this
 exact this
end Go.Proofs.YtkomnnijnggbpaaGreatDoor
/- Texts that begin alike: where they part, and where one ends. -/
namespace Go.Proofs.YtkomnnijnggbpaaGreatDoor
open Go.RowKit
set_option linter.unusedVariables false

theorem alike_succ {a b : ByteArray} {k : Nat} (h1 : k < a.size) (h2 : k < b.size) (h : ∀ j, j < k → a.data.toList[j]? = b.data.toList[j]?)
   (hk : ((a[k].toNat : Int) != (b[k].toNat : Int)) = false) : ∀ j, j < k + 1 → a.data.toList[j]? = b.data.toList[j]? := by
 intro j hj
 by_cases e : j = k
 · subst e
   have : a[j] = b[j] := by
     have : a[j].toNat = b[j].toNat := by simp at hk; omega
     exact UInt8.toNat_inj.1 this
   rw [byte_at a j h1, byte_at b j h2, this]
 · exact h j (by omega)

theorem sharedParts {a b : ByteArray} {k : Nat} (h1 : k < a.size) (h2 : k < b.size) (h : ∀ j, j < k → a.data.toList[j]? = b.data.toList[j]?)
   (hk : ((a[k].toNat : Int) != (b[k].toNat : Int)) = true) : shared a.data.toList b.data.toList = k := by
 refine shared_eq k _ _ (by simp; omega) (by simp; omega) h (Or.inr (Or.inr ?_))
 rw [byte_at a k h1, byte_at b k h2]
 intro e
 simp only [Option.some.injEq] at e
 rw [e] at hk
 simp at hk

theorem sharedEnds {a b : ByteArray} {k : Nat} (h1 : k ≤ a.size) (h2 : k ≤ b.size) (h : ∀ j, j < k → a.data.toList[j]? = b.data.toList[j]?)
   (hk : ¬ (k < a.size ∧ k < b.size)) : shared a.data.toList b.data.toList = k := by
 refine shared_eq k _ _ (by simp; omega) (by simp; omega) h ?_
 simp only [Array.length_toList, ByteArray.size_data]
 omega
set_option maxHeartbeats 400000 in
theorem implShared (a b : ByteArray) (w : World) (ha : a.size ≤ maxLen) (hb : b.size ≤ maxLen) :
   Calls Tryz.prog 146 #[.string a, .string b] w fun e w' => e = .returned (.int .i64 (shared a.data.toList b.data.toList)) ∧ ∃ n, w' = w.drewN n := by
 unfold maxLen at ha hb
 go_enter Tryz.func146, Tryz.ntmps146
 go_wp2
 all_goals
   go_loopw [13] (fun i wr => ∃ k : Nat, k ≤ a.size ∧ k ≤ b.size ∧ i = .int .i64 k ∧ Hid (∀ j, j < k → a.data.toList[j]? = b.data.toList[j]?) ∧ ∃ n, wr = w.drewN n) (fun i _ => a.size - (intOf i).toNat)
   case atStart => exact ⟨0, Nat.zero_le _, Nat.zero_le _, rfl, fun j hj => absurd hj (by omega), 0, rfl⟩
   case round =>
     obtain ⟨k, hka, hkb, rfl, HL, n, rfl⟩ := hrel
     by_cases hlt : k < a.size ∧ k < b.size
     · obtain ⟨h1, h2⟩ := hlt
       have i1 : (k : Int) < (a.size : Int) := by omega
       have i2 : (k : Int) < (b.size : Int) := by omega
       go_wp2
       go_quiet (fail)
       go_wp2
       · go_ret
         exact ⟨ret_int (by rw [sharedParts h1 h2 HL.out ‹_›]), n + nq, World.drewN_drewN _ _ _⟩
       · go_roundw
         case rel => exact ⟨k + 1, by omega, by omega, by go_num, alike_succ h1 h2 HL.out ‹_›, _, rfl⟩
         case measure => simp [intOf]; omega
     · go_wp2
       go_ret
       exact ⟨ret_int (by rw [sharedEnds hka hkb HL.out hlt]; omega), n, rfl⟩
end Go.Proofs.YtkomnnijnggbpaaGreatDoor
/- Plain mathematics of reading token by token, as the program does. -/
namespace Go.Proofs.YtkomnnijnggbpaaGreatDoor
set_option linter.unusedVariables false

def readTok (l : List UInt8) (a : Nat) : Option (Tok × Nat) :=
 if (l.getD a 0).toNat = 0 ∨ 191 < (l.getD a 0).toNat then none
 else if (l.getD a 0).toNat ≤ 127 then
   if a + 1 + (l.getD a 0).toNat ≤ l.length then some (⟨(l.drop (a + 1)).take (l.getD a 0).toNat, 0, 0⟩, a + 1 + (l.getD a 0).toNat) else none
 else if a + 1 < l.length ∧ (l.getD (a + 1) 0).toNat ≠ 0 then some (⟨[], (l.getD a 0).toNat - 124, (l.getD (a + 1) 0).toNat⟩, a + 2) else none


theorem getD_lt (l : List UInt8) (a : Nat) (h : (l.getD a 0).toNat ≠ 0) : a < l.length := by
 by_cases hl : a < l.length
 · exact hl
 · exact absurd (by rw [List.getD_eq_getElem?_getD, List.getElem?_eq_none (by omega)]; rfl) h
theorem readTok_ok {l : List UInt8} {a b : Nat} {y : Tok} (h : readTok l a = some (y, b)) : TokOk y ∧ a < b ∧ b ≤ l.length := by
 unfold readTok at h
 split at h
 · cases h
 · rename_i h0
   have hl := getD_lt l a (fun e => h0 (.inl e))
   split at h
   · rename_i h127
     split at h
     · rename_i hf
       cases h
       refine ⟨.inl ⟨rfl, rfl, ?_, ?_⟩, by omega, hf⟩ <;> (simp only; rw [List.length_take, List.length_drop]; omega)
     · cases h
   · rename_i h127
     split at h
     · rename_i hf
       cases h
       have := (l.getD (a + 1) 0).toNat_lt
       exact ⟨.inr ⟨rfl, by simp only; omega, by simp only; omega, by simp only; omega, by simp only; omega⟩, by omega, by omega⟩
     · cases h
theorem getD_drop (l : List UInt8) (a : Nat) (c : UInt8) (r : List UInt8) (h : l.drop a = c :: r) : l.getD a 0 = c ∧ a < l.length ∧ l.drop (a + 1) = r := by
 have hl : a < l.length := by
   by_cases hl : a < l.length
   · exact hl
   · rw [List.drop_eq_nil_of_le (by omega)] at h; cases h
 rw [List.drop_eq_getElem_cons hl] at h
 cases h
 exact ⟨by rw [List.getD_eq_getElem?_getD, List.getElem?_eq_getElem hl]; rfl, hl, rfl⟩
theorem read_enc (l : List UInt8) (a : Nat) (y : Tok) (r : List UInt8) (hy : TokOk y) (h : l.drop a = encTok y ++ r) : readTok l a = some (y, a + (encTok y).length) ∧ l.drop (a + (encTok y).length) = r := by
 have hd : l.drop (a + (encTok y).length) = r := by rw [← List.drop_drop, h]; exact List.drop_left ..
 refine ⟨?_, hd⟩
 rcases hy with ⟨h1, h2, h3, h4⟩ | ⟨h1, h2, h3, h4, h5⟩
 · obtain ⟨t, n, f⟩ := y
   simp only at h1 h2 h3 h4
   subst h1 h2
   have e : encTok ⟨t, 0, 0⟩ = UInt8.ofNat t.length :: t := by simp [encTok]
   rw [e] at h ⊢
   obtain ⟨g1, g2, g3⟩ := getD_drop l a _ (t ++ r) h
   have g4 : (l.getD a 0).toNat = t.length := by rw [g1]; exact ofNat_small (by omega)
   have g5 : a + 1 + t.length ≤ l.length := by
     have := congrArg List.length g3
     rw [List.length_drop, List.length_append] at this
     omega
   unfold readTok
   rw [g4, if_neg (by omega), if_pos h4, if_pos g5, g3]
   rw [List.take_left]
   simp only [List.length_cons]
   rw [show a + 1 + t.length = a + (t.length + 1) by omega]
 · obtain ⟨t, n, f⟩ := y
   simp only at h1 h2 h3 h4 h5
   subst h1
   have e : encTok ⟨[], n, f⟩ = [UInt8.ofNat (124 + n), UInt8.ofNat f] := by simp [encTok]; omega
   rw [e] at h ⊢
   obtain ⟨g1, g2, g3⟩ := getD_drop l a _ _ h
   obtain ⟨k1, k2, k3⟩ := getD_drop l (a + 1) _ _ g3
   have g4 : (l.getD a 0).toNat = 124 + n := by rw [g1]; exact ofNat_small (by omega)
   have k4 : (l.getD (a + 1) 0).toNat = f := by rw [k1]; exact ofNat_small (by omega)
   unfold readTok
   rw [g4, if_neg (by omega), if_neg (by omega), k4, if_pos ⟨k2, by omega⟩]
   simp

def Packs (l x : List UInt8) : Prop := x.length ≤ 2000 ∧ compress x = l
def TokLeft (l : List UInt8) (a : Nat) (out : List UInt8) : Prop := ∀ x, Packs l x → ∃ ys, l.drop a = ys.flatMap encTok ∧ Fits out ys ∧ mkAll out ys = x
theorem left_new (l : List UInt8) : TokLeft l 0 [] := by
 rintro x ⟨h1, rfl⟩
 exact ⟨tokens x, rfl, tokens_make x h1⟩
theorem left_step {l out : List UInt8} {a : Nat} (h : TokLeft l a out) (ha : a < l.length) (x : List UInt8) (hx : Packs l x) : ∃ y ys, readTok l a = some (y, a + (encTok y).length) ∧ l.drop (a + (encTok y).length) = ys.flatMap encTok ∧ Fits out (y :: ys) ∧ mkAll out (y :: ys) = x := by
 obtain ⟨ys, h1, h2, h3⟩ := h x hx
 cases ys with
 | nil =>
   have := congrArg List.length h1
   rw [List.length_drop] at this
   simp at this
   omega
 | cons y ys =>
   rw [List.flatMap_cons] at h1
   obtain ⟨k1, k2⟩ := read_enc l a y _ h2.1 h1
   exact ⟨y, ys, k1, k2, h2, h3⟩
theorem left_none {l out : List UInt8} {a : Nat} (h : TokLeft l a out) (ha : a < l.length) (hr : readTok l a = none) (x : List UInt8) : ¬ Packs l x := by
 intro hx
 obtain ⟨y, ys, h1, _⟩ := left_step h ha x hx
 rw [hr] at h1
 cases h1
theorem left_far {l out : List UInt8} {a b : Nat} {y : Tok} (h : TokLeft l a out) (ha : a < l.length) (hr : readTok l a = some (y, b)) (hf : out.length < y.far) (x : List UInt8) : ¬ Packs l x := by
 intro hx
 obtain ⟨y', ys, h1, _, h2, _⟩ := left_step h ha x hx
 rw [hr] at h1
 cases h1
 obtain ⟨k1, k2, _⟩ := h2
 rcases k1 with ⟨_, k, _⟩ | ⟨_, k, _⟩ <;> omega
theorem left_next {l out : List UInt8} {a b : Nat} {y : Tok} (h : TokLeft l a out) (ha : a < l.length) (hr : readTok l a = some (y, b)) : TokLeft l b (grow out y) := by
 intro x hx
 obtain ⟨y', ys, h1, h2, h3, h4⟩ := left_step h ha x hx
 rw [hr] at h1
 cases h1
 exact ⟨ys, h2, h3.2.2.2, h4⟩
theorem grow_len (out : List UInt8) (y : Tok) : (grow out y).length = out.length + y.text.length + y.len := by unfold grow; rw [copyOut_len, List.length_append]
theorem mkAll_ge : ∀ (ys : List Tok) (out : List UInt8), out.length ≤ (mkAll out ys).length
 | [], out => Nat.le_refl _
 | y :: ys, out => by
   have h1 := mkAll_ge ys (grow out y)
   have h2 := grow_len out y
   rw [mkAll]; omega
theorem left_long {l out : List UInt8} {a : Nat} (h : TokLeft l a out) (hl : 2000 < out.length) (x : List UInt8) : ¬ Packs l x := by
 intro hx
 obtain ⟨ys, _, _, h3⟩ := h x hx
 have h1 := mkAll_ge ys out
 rw [h3] at h1
 have := hx.1
 omega
theorem left_end {l out : List UInt8} {a : Nat} (h : TokLeft l a out) (ha : ¬ a < l.length) (x : List UInt8) (hx : Packs l x) : out = x := by
 obtain ⟨ys, h1, h2, h3⟩ := h x hx
 cases ys with
 | nil => exact h3
 | cons y ys =>
   have h4 := congrArg List.length h1
   have h5 := encTok_len y
   rw [List.length_drop, List.flatMap_cons, List.length_append] at h4
   omega
theorem expand_yes {l x : List UInt8} (h : Packs l x) : expand1 l = x ∧ expand2 l = true := by
 obtain ⟨h1, rfl⟩ := h
 exact expand_compress x h1
theorem expand_not {l : List UInt8} (h : ∀ x, ¬ Packs l x) : expand1 l = [] ∧ expand2 l = false := by
 have h2 : expand2 l = false := by
   cases he : expand2 l
   · rfl
   · have := expand_ok l he
     exact absurd ⟨this.2, this.1⟩ (h _)
 exact ⟨expand_no l h2, h2⟩
end Go.Proofs.YtkomnnijnggbpaaGreatDoor
/- Lists of tokens that a call makes: rows of its own. -/
namespace Go.Proofs.YtkomnnijnggbpaaGreatDoor
open Go.RowKit
set_option linter.unusedVariables false

theorem infoTok : (Tryz.prog.info? 158).map (fun i => (i.zero, i.size, i.bytes)) = some (some (.agg #[.string ⟨#[]⟩, .int .i64 0, .int .i64 0]), 3, 32) := by kernel_rfl

def tokCells (t : Tok) : List Value := [.string ⟨t.text.toArray⟩, .int .i64 t.len, .int .i64 t.far]
structure TRow (w0 w : World) (v : Value) (xs : List Tok) : Prop where
 row : w.ownsRow w0.heap.size 158 3 v xs.length (xs.flatMap tokCells)
 below : Below w0.heap.size w0 w

theorem TRow.push {w0 w w' : World} {v v' : Value} {xs : List Tok} (t : TRow w0 w v xs) (o : Obj) (x : Tok)
   (hown : w'.ownsRow w0.heap.size 158 3 v' (xs.length + 1) (xs.flatMap tokCells ++ tokCells x)) (hg : (w.alloc o).grownBy w' v.ownBlock) :
   ∃ g c, v' = .slice (some ⟨g, 0, none⟩) (xs.length + 1) c ∧ TRow w0 w' v' (xs ++ [x]) := by
 obtain ⟨g, c, rfl⟩ := ownsRow_succ hown
 refine ⟨g, c, rfl, by simpa using hown, ?_⟩
 exact (t.below.alloc t.below.size o).grown hg (by have := t.below.size; simp; omega) (fun k hk => (t.row.lt k hk).1)

theorem wp_pushT {w0 w : World} {v : Value} {xs : List Tok} (y : Tok) {S : ByteArray} {A B : Int} (hS : S.data.toList = y.text) (hA : A = y.len) (hB : B = y.far) {ops : Array Oper} {rest : List Oper} {o : Oper} {act : Act} {Q : Exit → Act → World → Prop} (hgd : o.guard = none) (s x : Operand)
   (hop : o.op = .call { callee := .builtin .append, args := #[s, x], argTypes := #[155, 155] })
   (hs : act.eval s = v) {ad : Nat} (hx : act.eval x = .slice (some ⟨ad, 0, none⟩) 1 1) (had : ad = w.heap.size) (t : TRow w0 w v xs) (hl : xs.length < 1000000)
   (hk : ∀ g c w', TRow w0 w' (.slice (some ⟨g, 0, none⟩) (xs.length + 1) c) (xs ++ [y]) → (w.alloc (.cells #[.string S, .int .i64 A, .int .i64 B] 158)).grownBy w' v.ownBlock → wpList Tryz.prog ops Q rest (act.put o.dst (.slice (some ⟨g, 0, none⟩) (xs.length + 1) c)) w') :
   wpList Tryz.prog ops Q (o :: rest) act (w.alloc (.cells #[.string S, .int .i64 A, .int .i64 B] 158)) := by
 subst hA hB had
 have hS' : S = ⟨y.text.toArray⟩ := bytes_ext (by rw [hS])
 subst hS'
 obtain ⟨ti, hti, hz0, hz1, hz2⟩ := info_parts infoTok
 refine wpList_append_own _ hgd s x 155 hop w0.heap.size 158 ti (.agg #[.string ⟨#[]⟩, .int .i64 0, .int .i64 0]) 3 32 Tryz.underlying155 hti hz0 hz1 hz2 rfl (by decide) _ xs.length (xs.flatMap tokCells) hs (t.row.alloc _)
   ⟨w.heap.size, 0, none⟩ 1 1 (tokCells y) hx rfl ?_ (fun u hu => by simp [tokCells] at hu; rcases hu with rfl | rfl | rfl <;> rfl) (by unfold maxLen; omega) (by omega) (by have := t.below.size; simp; omega) ?_
 · intro j u hj
   have hadd : (⟨w.heap.size, 0, none⟩ : Addr).add j = ⟨w.heap.size, j, none⟩ := by unfold Addr.add; split <;> simp_all
   rw [hadd]
   have hb : (w.alloc (.cells #[.string ⟨y.text.toArray⟩, .int .i64 y.len, .int .i64 y.far] 158)).heap[w.heap.size]? = some (.cells #[.string ⟨y.text.toArray⟩, .int .i64 y.len, .int .i64 y.far] 158 (0, 0)) := by
     show (w.heap.push _)[w.heap.size]? = _
     simp
   simp only [World.cell?, hb]
   simpa [tokCells] using hj
 · intro v' w' hown hg _
   obtain ⟨g, c, rfl, t'⟩ := t.push _ y hown hg
   exact hk g c w' t' hg

theorem trow_made (w : World) : TRow w (w.alloc (.cells #[] 158)) (.slice (some ⟨w.heap.size, 0, none⟩) 0 0) [] :=
 ⟨World.ownsRow_made w #[] 0 (Nat.le_refl _) (by unfold maxLen; omega) (by simp), (Below.refl _ w).alloc (Nat.le_refl _) _⟩
theorem trow_nil (w : World) : TRow w w (.slice none 0 0) [] := ⟨World.ownsRow_nil _ _ _ _, Below.refl _ _⟩
theorem TRow.old {w0 w : World} {v : Value} {xs : List Tok} (t : TRow w0 w v xs) : ∀ k, v.ownBlock = some k → k < w.heap.size := fun k hk => (t.row.lt k hk).2
theorem kept_cell {W W' : World} {row : Option Nat} (hg : W.grownBy W' row) {b : Nat} (hb : b < W.heap.size) (hne : some b ≠ row) (j : Nat) : W'.cell? ⟨b, j, none⟩ = W.cell? ⟨b, j, none⟩ := World.cell?_of_block (w := W) (hg.block b hb hne)
theorem TRow.later {w0 w w' : World} {v : Value} {xs : List Tok} (t : TRow w0 w v xs) (hb : Below w.heap.size w w') : TRow w0 w' v xs := by
 refine ⟨?_, t.below.trans (hb.mono t.below.size)⟩
 refine ⟨t.row.1, ?_⟩
 rcases t.row.2 with h2 | ⟨g, cap, cur, h1, h2, h3, r⟩
 · exact .inl h2
 · exact .inr ⟨g, cap, cur, h1, h2, (hb.block g ((Array.getElem?_eq_some_iff.1 h3).1)).trans h3, r⟩
theorem tok_cell (xs : List Tok) : ∀ (k j : Nat) (y : Tok), xs[k]? = some y → j < 3 → (xs.flatMap tokCells)[k * 3 + j]? = (tokCells y)[j]? := by
 induction xs with
 | nil => intro k j y h; simp at h
 | cons a l ih =>
   intro k j y h hj
   rw [List.flatMap_cons]
   cases k with
   | zero =>
     simp at h
     subst h
     rw [Nat.zero_mul, Nat.zero_add, List.getElem?_append_left (by simp [tokCells]; omega)]
   | succ k =>
     have ha : (tokCells a).length = 3 := rfl
     rw [List.getElem?_append_right (by rw [ha]; omega), ha, show (k + 1) * 3 + j - 3 = k * 3 + j by omega]
     exact ih k j y (by simpa using h) hj
theorem list_cells {w : World} {gl : Nat} {cur : Array Value} {xs : List Tok} (hb : w.heap[gl]? = some (.cells cur 158 (0, 0))) (hc : cur.toList.take (xs.length * 3) = xs.flatMap tokCells) (k : Nat) (y : Tok) (hk : xs[k]? = some y) :
   w.cell? ⟨gl, k * 3, none⟩ = some (.string ⟨y.text.toArray⟩) ∧ w.cell? ⟨gl, k * 3 + 1, none⟩ = some (.int .i64 y.len) ∧ w.cell? ⟨gl, k * 3 + 2, none⟩ = some (.int .i64 y.far) := by
 have hkl := (List.getElem?_eq_some_iff.1 hk).1
 have h : ∀ j, j < 3 → w.cell? ⟨gl, k * 3 + j, none⟩ = (tokCells y)[j]? := fun j hj => by
   have h1 := tok_cell xs k j y hk hj
   rw [← hc, List.getElem?_take, if_pos (by omega)] at h1
   simp only [World.cell?, hb]
   simpa using h1
 exact ⟨h 0 (by omega), h 1 (by omega), h 2 (by omega)⟩
theorem BRow.alloc {w0 w : World} {v : Value} {xs : List UInt8} (t : BRow w0 w v xs) (o : Obj) : BRow w0 (w.alloc o) v xs := ⟨t.row.alloc o, t.below.alloc t.below.size o⟩
theorem BRow.drewN {w0 w : World} {v : Value} {xs : List UInt8} (t : BRow w0 w v xs) (n : Nat) : BRow w0 (w.drewN n) v xs := ⟨t.row, t.below.trans (below_draws n)⟩
theorem BRow.more {w0 W w' : World} {v v' : Value} {xs : List UInt8} (t : BRow w0 W v xs) (ys : List UInt8) (hown : w'.ownsRow w0.heap.size 5 1 v' (xs.length + ys.length) (xs.map u8v ++ ys.map u8v)) (hg : W.grownBy w' v.ownBlock) : BRow w0 w' v' (xs ++ ys) := by
 refine ⟨by simpa using hown, t.below.grown hg t.below.size (fun k hk => (t.row.lt k hk).1)⟩
theorem strCells_u8 (s : ByteArray) : Lib.strCells s = s.data.toList.map u8v := by
 unfold Lib.strCells u8v
 simp
theorem BRow.apart {w0 w : World} {v : Value} {xs : List UInt8} (t : BRow w0 w v xs) {g U : Nat} {cur : Array Value} {fz : Nat × Nat} (hg : w.heap[g]? = some (.cells cur U fz)) (hU : U ≠ 5) : some g ≠ v.ownBlock := by
 intro e
 rcases t.row.2 with ⟨h0, _⟩ | ⟨g', cap, cur', h1, _, h3, _⟩
 · rw [h0] at e; cases e
 · rw [h1] at e
   cases e
   rw [hg] at h3
   cases h3
   exact hU rfl

theorem op_pushS {w0 w : World} {v : Value} {xs : List UInt8} (S : ByteArray) {o : Oper} {act : Act} {K : Act → World → Prop} {Q : Exit → Act → World → Prop} (s x : Operand)
   (hop : o.op = .call { callee := .builtin .append, args := #[s, x], argTypes := #[22, 9] })
   (hs : act.eval s = v) (hx : act.eval x = .string S) (t : BRow w0 w v xs) (hl : xs.length + S.size < 1000000000)
   (hk : ∀ v' w', BRow w0 w' v' (xs ++ S.data.toList) → w.grownBy w' v.ownBlock → K (act.put o.dst v') w') : o.wp Tryz.prog act w K Q := by
 obtain ⟨ti, hti, hz0, hz1, hz2⟩ := info_parts infoB
 obtain ⟨v', w', hr, h2, h3, h4⟩ := Lib.run_append_own_string (P := Tryz.prog) w w0.heap.size 22 9 o.type 5 ti Tryz.underlying22 Tryz.underlying9 hti hz0 hz1 hz2 v xs.length (xs.map u8v) t.row S (by unfold maxLen; omega) (by omega) t.below.size
 unfold Oper.wp execOp
 simp only [hop, resolve, invoke, builtin, Sem.run_bind, Sem.run_pure, Result.andThen_ok, List.map_toArray, List.map_cons, List.map_nil, hs, hx, hr]
 refine hk _ _ (t.more S.data.toList ?_ h3) h3
 rw [strCells_u8] at h2
 simpa using h2

theorem op_pushL {w0 w : World} {v : Value} {xs : List UInt8} (ys : List UInt8) {ad : Nat} {o : Oper} {act : Act} {K : Act → World → Prop} {Q : Exit → Act → World → Prop} (s x : Operand)
   (hop : o.op = .call { callee := .builtin .append, args := #[s, x], argTypes := #[22, 22] })
   (hs : act.eval s = v) (hx : act.eval x = .slice (some ⟨ad, 0, none⟩) ys.length ys.length) (hb : ∀ j, j < ys.length → w.cell? ⟨ad, j, none⟩ = some (u8v (ys.getD j 0))) (t : BRow w0 w v xs) (hl : xs.length + ys.length < 1000000000)
   (hk : ∀ v' w', BRow w0 w' v' (xs ++ ys) → w.grownBy w' v.ownBlock → K (act.put o.dst v') w') : o.wp Tryz.prog act w K Q := by
 obtain ⟨ti, hti, hz0, hz1, hz2⟩ := info_parts infoB
 refine wp_append_own _ s x 22 hop w0.heap.size 5 ti (.int .u8 0) 1 1 Tryz.underlying22 hti hz0 hz1 hz2 rfl (by decide) v xs.length (xs.map u8v) hs t.row
   ⟨ad, 0, none⟩ ys.length ys.length (ys.map u8v) hx (by simp) ?_ (fun u hu => by obtain ⟨c, _, rfl⟩ := List.mem_map.1 hu; rfl) (by unfold maxLen; omega) (by omega) t.below.size ?_
 · intro j u hj
   have hadd : (⟨ad, 0, none⟩ : Addr).add j = ⟨ad, j, none⟩ := by unfold Addr.add; split <;> simp_all
   have hjl : j < ys.length := by
     have := (List.getElem?_eq_some_iff.1 hj).1
     simpa using this
   rw [hadd, hb j hjl]
   rw [List.getElem?_map, List.getElem?_eq_getElem hjl] at hj
   simp at hj
   simp [← hj, hjl]
 · intro v' w' hown hg _
   exact hk v' w' (t.more ys hown hg) hg

theorem fresh_cell (w : World) (cs : Array Value) (U j : Nat) : (w.alloc (.cells cs U)).cell? ⟨w.heap.size, j, none⟩ = cs[j]? := by
 have : (w.alloc (.cells cs U)).heap[w.heap.size]? = some (.cells cs U (0, 0)) := by
   show (w.heap.push _)[w.heap.size]? = _
   rw [Array.getElem?_push, if_pos rfl]
 unfold World.cell?
 rw [this]
 rfl
theorem two_bytes (w : World) (a b : UInt8) {A B : Int} (hA : A = a.toNat) (hB : B = b.toNat) : ∀ j, j < [a, b].length → (w.alloc (.cells #[.int .u8 A, .int .u8 B] 5)).cell? ⟨w.heap.size, j, none⟩ = some (u8v ([a, b].getD j 0)) := by
 subst hA hB
 intro j hj
 rw [fresh_cell]
 match j, hj with
 | 0, _ => rfl
 | 1, _ => rfl
theorem one_byte (w : World) (a : UInt8) {A : Int} (hA : A = a.toNat) : ∀ j, j < [a].length → (w.alloc (.cells #[.int .u8 A] 5)).cell? ⟨w.heap.size, j, none⟩ = some (u8v ([a].getD j 0)) := by
 subst hA
 intro j hj
 rw [fresh_cell]
 match j, hj with
 | 0, _ => rfl
theorem takeS_at {P : Program} {ops : Array Oper} {Q : Exit → Act → World → Prop} {S : World → Prop} {md : Region.Mode} {i : Nat} {oi : Oper} {d : Option Nat} {v : Value} {fuel : Nat} {listed : Array Bool} {a : Act} {w : World} (hi : ops[i]? = some oi) (hd : oi.dst = d)
   (hs : Region.noSelect ops = true) (hf : Region.free md ops listed i = true) (hr : (Region.ready md ops listed).contains i = true)
   (hQ : ∀ c a w, Q (.panic c) (a.put oi.dst v) w → Q (.panic c) a w) (hw : Region.wanted oi (yielded ops a.tmps) = true) (hy : ∀ w, S w → (execOp a.eval oi).run P w = .ok (.value v) w) (hS : S w)
   (h : wpAnyH P md ops Q S fuel (listed.setIfInBounds i true) (a.put d v) w) : wpAnyH P md ops Q S (fuel + 1) listed a w := by
 subst hd
 exact wpAnyH_take hi hs hf hr hQ (Or.inl ⟨hw, hy⟩) hS h
theorem skipS_at {P : Program} {ops : Array Oper} {Q : Exit → Act → World → Prop} {S : World → Prop} {md : Region.Mode} {i : Nat} {oi : Oper} {d : Option Nat} {fuel : Nat} {listed : Array Bool} {a : Act} {w : World} (hi : ops[i]? = some oi) (hd : oi.dst = d)
   (hs : Region.noSelect ops = true) (hf : Region.free md ops listed i = true) (hr : (Region.ready md ops listed).contains i = true)
   (hQ : ∀ c a w, Q (.panic c) (a.put oi.dst undef) w → Q (.panic c) a w) (hw : Region.wanted oi (yielded ops a.tmps) = false) (hS : S w)
   (h : wpAnyH P md ops Q S fuel (listed.setIfInBounds i true) (a.put d undef) w) : wpAnyH P md ops Q S (fuel + 1) listed a w := by
 subst hd
 exact wpAnyH_take hi hs hf hr hQ (Or.inr ⟨hw, rfl⟩) hS h
theorem tk {P : Program} {ops : Array Oper} {Q : Exit → Act → World → Prop} {S : World → Prop} {md : Region.Mode} {oi : Oper} {fuel : Nat} {listed : Array Bool} {a : Act} {w : World} (i : Nat) (d : Option Nat) (v : Value)
   (hy : ∀ w, S w → (execOp a.eval oi).run P w = .ok (.value v) w) (hS : S w) (h : wpAnyH P md ops Q S fuel (listed.setIfInBounds i true) (a.put d v) w) (hi : ops[i]? = some oi := by rfl) (hd : oi.dst = d := by rfl)
   (hs : Region.noSelect ops = true := by kernel_rfl) (hf : Region.free md ops listed i = true := by kernel_rfl) (hr : (Region.ready md ops listed).contains i = true := by kernel_rfl)
   (hQ : ∀ c a w, Q (.panic c) (a.put oi.dst v) w → Q (.panic c) a w := by exact fun _ _ _ h => h) (hw : Region.wanted oi (yielded ops a.tmps) = true := by rfl) : wpAnyH P md ops Q S (fuel + 1) listed a w :=
 takeS_at hi hd hs hf hr hQ hw hy hS h
theorem sk {P : Program} {ops : Array Oper} {Q : Exit → Act → World → Prop} {S : World → Prop} {md : Region.Mode} {oi : Oper} {fuel : Nat} {listed : Array Bool} {a : Act} {w : World} (i : Nat) (d : Option Nat)
   (hS : S w) (h : wpAnyH P md ops Q S fuel (listed.setIfInBounds i true) (a.put d undef) w) (hi : ops[i]? = some oi := by rfl) (hd : oi.dst = d := by rfl)
   (hs : Region.noSelect ops = true := by kernel_rfl) (hf : Region.free md ops listed i = true := by kernel_rfl) (hr : (Region.ready md ops listed).contains i = true := by kernel_rfl)
   (hQ : ∀ c a w, Q (.panic c) (a.put oi.dst undef) w → Q (.panic c) a w := by exact fun _ _ _ h => h) (hw : Region.wanted oi (yielded ops a.tmps) = false := by rfl) : wpAnyH P md ops Q S (fuel + 1) listed a w :=
 skipS_at hi hd hs hf hr hQ hw hS h
theorem sA {α : Type _} (l : List α) (i : Nat) (a : α) : l.toArray.setIfInBounds i a = (l.set i a).toArray := List.setIfInBounds_toArray l i a
theorem sB {α : Type _} (x y : α) (l : List α) : (x :: l).set 0 y = y :: l := rfl
theorem sC {α : Type _} (x y : α) (l : List α) (i : Nat) : (x :: l).set (i + 1) y = x :: l.set i y := rfl
structure Hop (w w' : World) (v v' : Value) : Prop where
 grow : w.grownBy w' v.ownBlock
 loc : v'.ownBlock = v.ownBlock ∨ ∃ k, v'.ownBlock = some k ∧ w.heap.size ≤ k
theorem Hop.refl (w : World) (v : Value) : Hop w w v v := ⟨grown_refl _ _, .inl rfl⟩
theorem Hop.trans {w w1 w2 : World} {v v1 v2 : Value} (h : Hop w w1 v v1) (h1 : Hop w1 w2 v1 v2) : Hop w w2 v v2 := by
 refine ⟨⟨h1.grow.os.trans h.grow.os, h1.grow.tape.trans h.grow.tape, h1.grow.output.trans h.grow.output, Nat.le_trans h.grow.size h1.grow.size, fun k hk hne => ?_⟩, ?_⟩
 · refine (h1.grow.block k (by have := h.grow.size; omega) ?_).trans (h.grow.block k hk hne)
   rcases h.loc with e | ⟨j, e, hj⟩
   · rw [e]; exact hne
   · rw [e]; intro e2; cases e2; omega
 · rcases h1.loc with e | ⟨j, e, hj⟩
   · rw [e]; exact h.loc
   · exact .inr ⟨j, e, Nat.le_trans h.grow.size hj⟩
theorem Hop.other {w w' : World} {v v' : Value} (h : Hop w w' v v') {b : Nat} (hb : b < w.heap.size) (hne : some b ≠ v.ownBlock) : w'.heap[b]? = w.heap[b]? ∧ some b ≠ v'.ownBlock := by
 refine ⟨h.grow.block b hb hne, ?_⟩
 rcases h.loc with e | ⟨j, e, hj⟩
 · rw [e]; exact hne
 · rw [e]; intro e2; cases e2; omega

theorem tok_new (w : World) (y : Tok) {S : ByteArray} {A B : Int} (hS : S.data.toList = y.text) (hA : A = y.len) (hB : B = y.far) : ∀ j u, (tokCells y)[j]? = some u → (w.alloc (.cells #[.string S, .int .i64 A, .int .i64 B] 158)).cell? ((⟨w.heap.size, 0, none⟩ : Addr).add j) = some u := by
 subst hA hB
 have hS' : S = ⟨y.text.toArray⟩ := bytes_ext (by rw [hS])
 subst hS'
 intro j u hj
 have hadd : (⟨w.heap.size, 0, none⟩ : Addr).add j = ⟨w.heap.size, j, none⟩ := by unfold Addr.add; split <;> simp_all
 rw [hadd]
 have hb : (w.alloc (.cells #[.string ⟨y.text.toArray⟩, .int .i64 y.len, .int .i64 y.far] 158)).heap[w.heap.size]? = some (.cells #[.string ⟨y.text.toArray⟩, .int .i64 y.len, .int .i64 y.far] 158 (0, 0)) := by
   show (w.heap.push _)[w.heap.size]? = _
   simp
 simp only [World.cell?, hb]
 simpa [tokCells] using hj

theorem op_pushT {w0 w : World} {v : Value} {xs : List Tok} (y : Tok) {o : Oper} {act : Act} {K : Act → World → Prop} {Q : Exit → Act → World → Prop} (s x : Operand)
   (hop : o.op = .call { callee := .builtin .append, args := #[s, x], argTypes := #[155, 155] })
   (hs : act.eval s = v) {ad : Nat} (hx : act.eval x = .slice (some ⟨ad, 0, none⟩) 1 1) (hb : ∀ j u, (tokCells y)[j]? = some u → w.cell? ((⟨ad, 0, none⟩ : Addr).add j) = some u) (t : TRow w0 w v xs) (hl : xs.length < 1000000)
   (hk : ∀ v' w', TRow w0 w' v' (xs ++ [y]) → Hop w w' v v' → K (act.put o.dst v') w') : o.wp Tryz.prog act w K Q := by
 obtain ⟨ti, hti, hz0, hz1, hz2⟩ := info_parts infoTok
 obtain ⟨v', w', hr, hown, hg, _, hloc⟩ := run_append_own_at (P := Tryz.prog) w w0.heap.size 155 o.type 158 ti (.agg #[.string ⟨#[]⟩, .int .i64 0, .int .i64 0]) 3 32 Tryz.underlying155 hti hz0 hz1 hz2 rfl (by decide) v xs.length (xs.flatMap tokCells) t.row
   ⟨ad, 0, none⟩ 1 1 (tokCells y) rfl hb (fun u hu => by simp [tokCells] at hu; rcases hu with rfl | rfl | rfl <;> rfl) (by unfold maxLen; omega) (by omega) t.below.size
 unfold Oper.wp execOp
 simp only [hop, resolve, invoke, builtin, Sem.run_bind, Sem.run_pure, Result.andThen_ok, List.map_toArray, List.map_cons, List.map_nil, hs, hx, hr]
 refine hk _ _ ⟨by simpa using hown, t.below.grown hg t.below.size (fun k hk => (t.row.lt k hk).1)⟩ ⟨hg, ?_⟩
 rcases hloc with e | e
 · exact .inl e
 · exact .inr ⟨_, e, Nat.le_refl _⟩

theorem TRow.alloc {w0 w : World} {v : Value} {xs : List Tok} (t : TRow w0 w v xs) (o : Obj) : TRow w0 (w.alloc o) v xs := ⟨t.row.alloc o, t.below.alloc t.below.size o⟩
theorem TRow.drewN {w0 w : World} {v : Value} {xs : List Tok} (t : TRow w0 w v xs) (n : Nat) : TRow w0 (w.drewN n) v xs := ⟨t.row, t.below.trans (below_draws n)⟩
theorem hop_alloc (w : World) (v : Value) (o : Obj) : Hop w (w.alloc o) v v := ⟨⟨rfl, rfl, rfl, by simp, fun k hk _ => heap_alloc_old w o hk⟩, .inl rfl⟩
theorem chunks_cons {T : ByteArray} (h : ¬ T.size ≤ 127) : chunks T.data.toList = ⟨(T.extract 0 127).data.toList, 0, 0⟩ :: chunks (T.extract 127 T.size).data.toList := by
 rw [chunks_more (by simpa using h)]
 simp only [ByteArray.data_extract, Array.toList_extract, List.extract_eq_take_drop]
 rw [List.drop_zero, show 127 - 0 = 127 from rfl, List.take_of_length_le (l := List.drop 127 T.data.toList) (by simp)]
theorem chunks_last {T : ByteArray} (h : T.size ≤ 127) (h0 : ¬ T.size = 0) : chunks T.data.toList = [⟨T.data.toList, 0, 0⟩] := by
 rw [chunks_few (by simpa using h)]
 unfold flush
 rw [if_neg (fun e => h0 (by have := congrArg List.length e; simpa using this))]
theorem chunks_none : chunks (⟨#[]⟩ : ByteArray).data.toList = [] := by rw [chunks_few (by decide)]; rfl
theorem text_empty {T : ByteArray} (h : T.size = 0) : T = ⟨#[]⟩ := by
 apply bytes_ext
 have : T.data.toList.length = 0 := by simpa using h
 exact List.eq_nil_of_length_eq_zero this

def ToldOut (w0 w : World) (v : Value) (xs : List Tok) (e : Ending) (w' : World) : Prop := ∃ v', e = .returned v' ∧ TRow w0 w' v' xs ∧ Hop w w' v v'

set_option maxHeartbeats 1000000 in
set_option maxRecDepth 100000 in
theorem appendTold (w0 w : World) (v : Value) (xs : List Tok) (T : ByteArray) (t : TRow w0 w v xs) (hT : T.size ≤ 2000) (hx : xs.length ≤ 2000) :
   Calls Tryz.prog 149 #[v, .string T] w (ToldOut w0 w v (xs ++ chunks T.data.toList)) := by
 have T0 := Lib.hid t
 clear t
 go_enter Tryz.func149, Tryz.ntmps149
 go_wp2_with fail
 go_loopw [0, 1] (fun v1 tt wr => ∃ (X : ByteArray) (ys : List Tok), tt = .string X ∧ X.size ≤ 2000 ∧ ys.length + X.size ≤ 4000 ∧ Hid (ys ++ chunks X.data.toList = xs ++ chunks T.data.toList) ∧ TRow w0 wr v1 ys ∧ Hop w wr v v1) (fun _ tt _ => match tt with | .string X => X.size | _ => 0)
 case atStart => exact ⟨T, xs, rfl, hT, by omega, rfl, T0.out, Hop.refl _ _⟩
 case round =>
   obtain ⟨X, ys, rfl, hX, hys, HC, t, hop⟩ := hrel
   have TT := Lib.hid t
   have HH := Lib.hid hop
   clear t hop T0
   by_cases h127 : X.size ≤ 127
   · have h1 : ¬ (127 : Int) < (X.size : Int) := by omega
     by_cases h0 : X.size = 0
     · obtain rfl := text_empty h0
       have HE := Lib.hid (show ys = xs ++ chunks T.data.toList by rw [← HC.out, chunks_none, List.append_nil])
       go_wp2
       go_ret
       exact ⟨_, rfl, by rw [← HE.out]; exact TT.out, HH.out⟩
     · have hne : X.toList.isEmpty = false := by rw [ByteArray.toList_eq, List.isEmpty_eq_false_iff]; exact fun e => h0 (by have := congrArg List.length e; simpa using this)
       have hne2 : ¬ X.toList = [] := by rw [ByteArray.toList_eq]; exact fun e => h0 (by have := congrArg List.length e; simpa using this)
       have HE := Lib.hid (show ys ++ [⟨X.data.toList, 0, 0⟩] = xs ++ chunks T.data.toList by rw [← HC.out, chunks_last h127 h0])
       go_wp2_with (at_builtin; refine wpList_plain rfl (fun K hK => ?_); refine op_pushT ⟨X.data.toList, 0, 0⟩ _ _ rfl rfl rfl (tok_new _ _ rfl rfl rfl) (TT.out.alloc _) (by omega) ?_; intro v2 w2 t2 hp2; refine hK _ _ ?_; clear hK K; have T2 := Lib.hid t2; have H2 := Lib.hid (HH.out.trans ((hop_alloc _ _ _).trans hp2)); clear t2 hp2)
       go_ret
       exact ⟨_, rfl, by rw [← HE.out]; exact T2.out, H2.out⟩
   · have h1 : (127 : Int) < (X.size : Int) := by omega
     have HE := Lib.hid (show (ys ++ [⟨(X.extract 0 127).data.toList, 0, 0⟩]) ++ chunks (X.extract 127 X.size).data.toList = xs ++ chunks T.data.toList by rw [← HC.out, chunks_cons h127]; simp)
     have HZ := Lib.hid (show (X.extract 127 X.size).size = X.size - 127 by rw [ByteArray.size_extract]; omega)
     have h2 : (127 : Int) ≤ (X.size : Int) := by omega
     go_wp2_with (at_builtin; refine wpList_plain rfl (fun K hK => ?_); refine op_pushT ⟨(X.extract 0 127).data.toList, 0, 0⟩ _ _ rfl rfl rfl (tok_new _ _ rfl rfl rfl) (TT.out.alloc _) (by omega) ?_; intro v2 w2 t2 hp2; refine hK _ _ ?_; clear hK K; have T2 := Lib.hid t2; have H2 := Lib.hid (HH.out.trans ((hop_alloc _ _ _).trans hp2)); clear t2 hp2)
     go_roundw
     case rel => exact ⟨_, _, rfl, by rw [HZ.out]; omega, by rw [HZ.out, List.length_append, List.length_singleton]; omega, HE.out, T2.out, H2.out⟩
     case measure => show (X.extract 127 X.size).size < X.size; rw [HZ.out]; omega
end Go.Proofs.YtkomnnijnggbpaaGreatDoor
/- Where four bytes stood last: the program's map, as it is filled place by place. -/
namespace Go.Proofs.YtkomnnijnggbpaaGreatDoor
open Go.RowKit Go.Maps
open Go.WideMaps (keyOf_string_mk)
set_option linter.unusedVariables false

theorem keyS : Keyed Tryz.prog 9 := string_keyed Tryz.underlying9
theorem zeroI (w : World) : (zeroValue 3).run Tryz.prog w = .ok (.int .i64 0) w := by kernel_rfl

def StoodAs (D : DataW Unit) (l : List UInt8) (k : Nat) (q : List UInt8) : Prop :=
 (Maps.has D (.string q) = false ∧ ∀ p, p < k → four l p ≠ q) ∨
 (Maps.has D (.string q) = true ∧ ∃ p, p < k ∧ D.atKey (.string q) (.lit (.int .i64 0)) = .lit (.int .i64 p) ∧ four l p = q ∧ ∀ p', p < p' → p' < k → four l p' ≠ q)
theorem stood_nil (l q : List UInt8) : StoodAs (.map []) l 0 q := .inl ⟨rfl, fun p hp => absurd hp (by omega)⟩
theorem stood_put {D : DataW Unit} {l : List UInt8} {k : Nat} (hD : IsMap D) (h : ∀ q, StoodAs D l k q) (q : List UInt8) : StoodAs (D.put (.string (four l k)) (.lit (.int .i64 k))) l (k + 1) q := by
 by_cases e : q = four l k
 · subst e
   right
   refine ⟨has_put_same hD (by trivial) _, k, by omega, atKey_put_same hD (by trivial) _ _, rfl, fun p' h1 h2 => by omega⟩
 · have hne : (Lit.string q) ≠ .string (four l k) := by intro h; cases h; exact e rfl
   rcases h q with ⟨h1, h2⟩ | ⟨h1, p, h2, h3, h4, h5⟩
   · left
     refine ⟨by rw [has_put_other hne]; exact h1, fun p hp => ?_⟩
     by_cases hpk : p = k
     · subst hpk; exact fun h => e h.symm
     · exact h2 p (by omega)
   · right
     refine ⟨by rw [has_put_other hne]; exact h1, p, by omega, by rw [atKey_put_other hne]; exact h3, h4, fun p' h6 h7 => ?_⟩
     by_cases hpk : p' = k
     · subst hpk; exact fun h => e h.symm
     · exact h5 p' h6 (by omega)

def Stood (w : World) (B : Nat) (l : List UInt8) (k : Nat) : Prop := ∃ D : DataW Unit, w.ownsMap Tryz.prog 9 (plainElem Tryz.prog 3) B k D ∧ ∀ q, StoodAs D l k q
theorem Stood.block {w : World} {B : Nat} {l : List UInt8} {k : Nat} (h : Stood w B l k) : ∃ es clock, w.heap[B]? = some (.map es clock) := by
 obtain ⟨D, ⟨es, clock, hb, _⟩, _⟩ := h
 exact ⟨es, clock, hb⟩
theorem Stood.lt {w : World} {B : Nat} {l : List UInt8} {k : Nat} (h : Stood w B l k) : B < w.heap.size := by
 obtain ⟨es, clock, hb⟩ := h.block
 exact (Array.getElem?_eq_some_iff.1 hb).1
theorem Stood.keep {w w' : World} {B : Nat} {l : List UInt8} {k : Nat} (h : Stood w B l k) (hb : w'.heap[B]? = w.heap[B]?) : Stood w' B l k := by
 obtain ⟨D, ⟨es, clock, h1, r⟩, h2⟩ := h
 exact ⟨D, ⟨es, clock, hb.trans h1, r⟩, h2⟩
theorem stood_made (w : World) (l : List UInt8) : Stood (w.alloc (.map #[] 0)) w.heap.size l 0 := ⟨_, World.ownsMap_made _ _ _ _, stood_nil l⟩
theorem TRow.noMap {w0 w : World} {v : Value} {xs : List Tok} (t : TRow w0 w v xs) {B : Nat} {es : Array MapEntry} {clock : Nat} (hB : w.heap[B]? = some (.map es clock)) : some B ≠ v.ownBlock := by
 intro e
 rcases t.row.2 with ⟨h0, _⟩ | ⟨g', cap, cur', h1, _, h3, _⟩
 · rw [h0] at e; cases e
 · rw [h1] at e
   cases e
   rw [hB] at h3
   cases h3
theorem TRow.mapped {w0 w w' : World} {v : Value} {xs : List Tok} (t : TRow w0 w v xs) {B : Nat} {es : Array MapEntry} {clock : Nat} (hB : w.heap[B]? = some (.map es clock)) (hBw : w0.heap.size ≤ B) (hg : w.grownBy w' (some B)) : TRow w0 w' v xs := by
 refine ⟨?_, t.below.grown hg t.below.size (fun k hk => by cases hk; exact hBw)⟩
 refine ⟨t.row.1, ?_⟩
 rcases t.row.2 with h2 | ⟨g, cap, cur, h1, h2, h3, r⟩
 · exact .inl h2
 · refine .inr ⟨g, cap, cur, h1, h2, (hg.block g ((Array.getElem?_eq_some_iff.1 h3).1) ?_).trans h3, r⟩
   intro e
   cases e
   rw [hB] at h3
   cases h3

theorem wp_look {w : World} {B k : Nat} {l : List UInt8} (h : Stood w B l k) {ops : Array Oper} {rest : List Oper} {o : Oper} {a : Act} {Q : Exit → Act → World → Prop} (hg : o.guard = none) (m x : Operand) (hop : o.op = Op.lookup 188 m x true)
   (hm : a.eval m = .map (some B)) (q : ByteArray) (hx : a.eval x = .string q) (hq : q.size ≤ 2000)
   (hno : (∀ p, p < k → four l p ≠ q.data.toList) → ∀ c : Int, wpList Tryz.prog ops Q rest (a.put o.dst (.tuple #[.int .i64 c, .bool false])) w)
   (hyes : ∀ p, p < k → four l p = q.data.toList → (∀ p', p < p' → p' < k → four l p' ≠ q.data.toList) → wpList Tryz.prog ops Q rest (a.put o.dst (.tuple #[.int .i64 p, .bool true])) w) :
   wpList Tryz.prog ops Q (o :: rest) a w := by
 obtain ⟨D, hown, ht⟩ := h
 refine wpList_lookup_own_ok_int w hg m x 188 hop 9 3 .i64 keyS Tryz.underlying188 Tryz.underlying3 (zeroI _) B k D hm hown _ _ hx (keyOf_string_mk Tryz.underlying9 (by unfold maxLen; omega)) ?_
 intro c hc hwc
 rcases ht q.data.toList with ⟨h1, h2⟩ | ⟨h1, p, h2, h3, h4, h5⟩
 · rw [h1]; exact hno h2 c
 · rw [h1]
   rw [h3] at hc
   cases hc
   exact hyes p h2 h4 h5
theorem wp_look_no {w : World} {B k : Nat} {l : List UInt8} (h : Stood w B l k) (q : ByteArray) (hn : ∀ p, p < k → four l p ≠ q.data.toList) {ops : Array Oper} {rest : List Oper} {o : Oper} {a : Act} {Q : Exit → Act → World → Prop} (hg : o.guard = none) (m x : Operand) (hop : o.op = Op.lookup 188 m x true)
   (hm : a.eval m = .map (some B)) (hx : a.eval x = .string q) (hq : q.size ≤ 2000)
   (hno : ∀ c : Int, wpList Tryz.prog ops Q rest (a.put o.dst (.tuple #[.int .i64 c, .bool false])) w) :
   wpList Tryz.prog ops Q (o :: rest) a w :=
 wp_look h hg m x hop hm q hx hq (fun _ => hno) (fun p h1 h2 _ => absurd h2 (hn p h1))
theorem wp_look_yes {w : World} {B k : Nat} {l : List UInt8} (h : Stood w B l k) (q : ByteArray) (p : Nat) (hp : p < k) (hpq : four l p = q.data.toList) (hlast : ∀ p', p < p' → p' < k → four l p' ≠ q.data.toList) {ops : Array Oper} {rest : List Oper} {o : Oper} {a : Act} {Q : Exit → Act → World → Prop} (hg : o.guard = none) (m x : Operand) (hop : o.op = Op.lookup 188 m x true)
   (hm : a.eval m = .map (some B)) (hx : a.eval x = .string q) (hq : q.size ≤ 2000)
   (hyes : wpList Tryz.prog ops Q rest (a.put o.dst (.tuple #[.int .i64 p, .bool true])) w) :
   wpList Tryz.prog ops Q (o :: rest) a w := by
 refine wp_look h hg m x hop hm q hx hq (fun hn => absurd hpq (hn p hp)) (fun p2 h1 h2 h3 => ?_)
 have e : p2 = p := by
   rcases Nat.lt_trichotomy p2 p with h4 | h4 | h4
   · exact absurd hpq (h3 p h4 hp)
   · exact h4
   · exact absurd h2 (hlast p2 h4 h1)
 rw [e]; exact hyes
theorem last_or (l q : List UInt8) : ∀ k, (∀ p, p < k → four l p ≠ q) ∨ ∃ p, p < k ∧ four l p = q ∧ ∀ p', p < p' → p' < k → four l p' ≠ q
 | 0 => .inl (fun p hp => absurd hp (by omega))
 | k + 1 => by
   by_cases e : four l k = q
   · exact .inr ⟨k, by omega, e, fun p' h1 h2 => by omega⟩
   · rcases last_or l q k with h | ⟨p, h1, h2, h3⟩
     · refine .inl (fun p hp => ?_)
       by_cases hpk : p = k
       · rw [hpk]; exact e
       · exact h p (by omega)
     · refine .inr ⟨p, by omega, h2, fun p' h4 h5 => ?_⟩
       by_cases hpk : p' = k
       · rw [hpk]; exact e
       · exact h3 p' h4 (by omega)
theorem wp_stood {w : World} {B k : Nat} {l : List UInt8} (h : Stood w B l k) {ops : Array Oper} {rest : List Oper} {o : Oper} {a : Act} {Q : Exit → Act → World → Prop} (hg : o.guard = none) (m x v : Operand) (hop : o.op = Op.mapUpdate 188 m x v)
   (hm : a.eval m = .map (some B)) (q : ByteArray) (hx : a.eval x = .string q) (hq : q.data.toList = four l k) (hv : a.eval v = .int .i64 k) (hk : k ≤ 2000)
   (hK : ∀ w', Stood w' B l (k + 1) → w.grownBy w' (some B) → wpList Tryz.prog ops Q rest (a.put o.dst undef) w') :
   wpList Tryz.prog ops Q (o :: rest) a w := by
 obtain ⟨D, hown, ht⟩ := h
 have hqs : q.size ≤ 4 := by
   have h1 : q.data.toList.length = q.size := by simp
   rw [← h1, hq]
   unfold four
   rw [List.length_take]; omega
 refine wpList_mapUpdate_own w hg m x v 188 hop 9 3 keyS Tryz.underlying188 _ B k D hm hown (by unfold maxLen; omega) _ _ _ hx hv (keyOf_string_mk Tryz.underlying9 (by unfold maxLen; omega)) _ [] (plainElem_int Tryz.underlying3 (WalkArith.wf_i64 (by omega))) ?_
 intro w' h1 h2
 refine hK w' ⟨_, h1, fun q2 => ?_⟩ h2
 rw [hq]
 exact stood_put hown.isMap ht q2
theorem Stood.clear {w : World} {B k : Nat} {l : List UInt8} (h : Stood w B l k) : ∃ w', (∀ ty, (Builtin.clear_ #[188] ty #[.map (some B)]).run Tryz.prog w = .ok (.tuple #[]) w') ∧ w.grownBy w' (some B) := by
 obtain ⟨es, clock, hb⟩ := h.block
 refine ⟨{ w with heap := w.heap.setIfInBounds B (.map #[] clock) }, fun ty => ?_, ⟨rfl, rfl, rfl, by simp, fun i _ hi => Array.getElem?_setIfInBounds_ne (fun e => hi (by rw [e]))⟩⟩
 have hs : (setObj B (.map #[] clock)).run Tryz.prog w = .ok () { w with heap := w.heap.setIfInBounds B (.map #[] clock) } := by simp [setObj, Sem.run, hb]
 simp [Builtin.clear_, run_underlying Tryz.underlying188, MapKept.run_getObj_map hb, hs, Result.andThen]
end Go.Proofs.YtkomnnijnggbpaaGreatDoor
/- Texts under a name. -/
namespace Go.Proofs.YtkomnnijnggbpaaGreatDoor
open Go.RowKit
set_option linter.unusedVariables false

def Same (w : World) (A : ByteArray) (e : Ending) (w' : World) : Prop := e = .returned (.string A) ∧ Below w.heap.size w w'
theorem as_text {A : ByteArray} {l : List UInt8} (h : A.data.toList = l) : (⟨l.toArray⟩ : ByteArray) = A := bytes_ext (by rw [h])
theorem text_of (l : List UInt8) : ∃ A : ByteArray, A.data.toList = l ∧ A.size = l.length := ⟨⟨l.toArray⟩, rfl, by simp [ByteArray.size]⟩
theorem same_beq (A : ByteArray) : (A.toList == A.toList) = true := by simp
theorem other_beq {A B : ByteArray} (h : A.data.toList ≠ B.data.toList) : (A.toList == B.toList) = false := by rw [ByteArray.toList_eq, ByteArray.toList_eq]; simpa using h
def Where (w : World) (v v' : Value) : Prop := v'.ownBlock = v.ownBlock ∨ ∃ g, v'.ownBlock = some g ∧ w.heap.size ≤ g
theorem Where.refl (w : World) (v : Value) : Where w v v := .inl rfl
theorem Where.trans {w w1 : World} {v v1 v2 : Value} (h : Where w v v1) (hs : w.heap.size ≤ w1.heap.size) (k : Where w1 v1 v2) : Where w v v2 := by
 rcases k with k | ⟨g, k, kg⟩
 · rcases h with h | ⟨g, h, hg⟩
   · exact .inl (k.trans h)
   · exact .inr ⟨g, k.trans h, hg⟩
 · exact .inr ⟨g, k, by omega⟩
theorem Where.grow {w w1 w2 : World} {v v1 : Value} (h : Where w v v1) (g1 : w.grownBy w1 v.ownBlock) (g2 : w1.grownBy w2 v1.ownBlock) : w.grownBy w2 v.ownBlock :=
 ⟨g2.os.trans g1.os, g2.tape.trans g1.tape, g2.output.trans g1.output, Nat.le_trans g1.size g2.size, fun k hk hne => (g2.block k (by have := g1.size; omega) (by
   rcases h with h | ⟨g, h, hg⟩
   · rw [h]; exact hne
   · rw [h]; intro e; cases e; omega)).trans (g1.block k hk hne)⟩
theorem where_str {w w' : World} {v v' : Value} {base n : Nat} {xs : List Value} {ty : TypeId} {S : ByteArray} (hown : w.ownsRow base 5 1 v n xs) (hl : n + S.size < 1000000000)
   (hr : (Builtin.append_ #[22, 9] ty #[v, .string S]).run Tryz.prog w = .ok v' w') : Where w v v' := by
 obtain ⟨ti, hti, hz0, hz1, hz2⟩ := info_parts infoB
 have hxl : xs.length = n := by simpa using hown.1
 rcases hown.2 with ⟨rfl, rfl⟩ | ⟨g, cap, cur, rfl, hbg, hg, hnc, hcm, hcs, htake⟩
 · obtain ⟨v2, w2, hr2, h2, _, _⟩ := Lib.run_append_own_string (P := Tryz.prog) w w.heap.size 22 9 ty 5 ti Tryz.underlying22 Tryz.underlying9 hti hz0 hz1 hz2 (.slice none 0 0) 0 [] (World.ownsRow_nil _ _ _ _) S (by unfold maxLen; omega) (by omega) (Nat.le_refl _)
   rw [hr] at hr2
   cases hr2
   rcases h2.2 with ⟨rfl, _⟩ | ⟨g, cap, cur, rfl, hbg, _⟩
   · exact .inl rfl
   · exact .inr ⟨g, rfl, hbg⟩
 · by_cases hroom : n + S.size ≤ cap
   · have hcs' : cur.size = cap := by simpa using hcs
     have hr2 := Lib.run_append_room_string (P := Tryz.prog) w 22 9 ty 5 ti Tryz.underlying22 Tryz.underlying9 hti hz1 g n cap cur hg S hroom (by omega)
     rw [hr] at hr2
     cases hr2
     exact .inl rfl
   · have holds : ∀ j u, xs[j]? = some u → w.cell? ((⟨g, 0, none⟩ : Addr).add j) = some u := hown.cells (g := g) rfl
     have hr2 := Lib.run_append_grow_string (P := Tryz.prog) w 22 9 ty 5 ti (.int .u8 0) Tryz.underlying22 Tryz.underlying9 hti hz0 ⟨g, 0, none⟩ n cap xs (by rw [hz1]; simpa using hxl) holds S (by omega) (by omega) (by rw [hz2]; exact growslice_fits (by omega) (by omega))
     rw [hr] at hr2
     cases hr2
     exact .inr ⟨_, rfl, Nat.le_refl _⟩
theorem op_pushA {w0 w : World} {v : Value} {xs : List UInt8} (S : ByteArray) {o : Oper} {act : Act} {K : Act → World → Prop} {Q : Exit → Act → World → Prop} (s x : Operand)
   (hop : o.op = .call { callee := .builtin .append, args := #[s, x], argTypes := #[22, 9] })
   (hs : act.eval s = v) (hx : act.eval x = .string S) (t : BRow w0 w v xs) (hl : xs.length + S.size < 1000000000)
   (hk : ∀ v' w', BRow w0 w' v' (xs ++ S.data.toList) → w.grownBy w' v.ownBlock → Where w v v' → K (act.put o.dst v') w') : o.wp Tryz.prog act w K Q := by
 obtain ⟨ti, hti, hz0, hz1, hz2⟩ := info_parts infoB
 obtain ⟨v', w', hr, h2, h3, h4⟩ := Lib.run_append_own_string (P := Tryz.prog) w w0.heap.size 22 9 o.type 5 ti Tryz.underlying22 Tryz.underlying9 hti hz0 hz1 hz2 v xs.length (xs.map u8v) t.row S (by unfold maxLen; omega) (by omega) t.below.size
 have hw := where_str t.row hl hr
 unfold Oper.wp execOp
 simp only [hop, resolve, invoke, builtin, Sem.run_bind, Sem.run_pure, Result.andThen_ok, List.map_toArray, List.map_cons, List.map_nil, hs, hx, hr]
 refine hk _ _ (t.more S.data.toList ?_ h3) h3 hw
 rw [strCells_u8] at h2
 simpa using h2
theorem BRow.under {w0 w w' : World} {v : Value} {xs : List UInt8} (t : BRow w0 w v xs) (hb : Below w.heap.size w w') : BRow w0 w' v xs := by
 refine ⟨⟨t.row.1, ?_⟩, t.below.trans (hb.mono t.below.size)⟩
 rcases t.row.2 with h2 | ⟨g, cap, cur, h1, h2, h3, r⟩
 · exact .inl h2
 · exact .inr ⟨g, cap, cur, h1, h2, (hb.block g (Array.getElem?_eq_some_iff.1 h3).1).trans h3, r⟩
theorem grown_under {w w' : World} (h : Below w.heap.size w w') (row : Option Nat) : w.grownBy w' row := ⟨h.os, h.tape, h.output, h.size, fun j hj _ => h.block j hj⟩
theorem grown_then {w w1 w2 : World} {row : Option Nat} (g : w.grownBy w1 row) (h : Below w1.heap.size w1 w2) : w.grownBy w2 row :=
 ⟨h.os.trans g.os, h.tape.trans g.tape, h.output.trans g.output, Nat.le_trans g.size h.size, fun k hk hne => (h.block k (by have := g.size; omega)).trans (g.block k hk hne)⟩
theorem blk4 {w : World} {g T : Nat} {a0 a1 a2 a3 : Value} (h : w.heap[g]? = some (.cells #[a0, a1, a2, a3] T (0, 0))) : w.cell? ⟨g, 0, none⟩ = some a0 ∧ w.cell? ⟨g, 1, none⟩ = some a1 ∧ w.cell? ⟨g, 2, none⟩ = some a2 ∧ w.cell? ⟨g, 3, none⟩ = some a3 := by
 refine ⟨?_, ?_, ?_, ?_⟩ <;> simp [World.cell?, h]
theorem blk3 {w : World} {g T : Nat} {a0 a1 a2 : Value} (h : w.heap[g]? = some (.cells #[a0, a1, a2] T (0, 0))) : w.cell? ⟨g, 0, none⟩ = some a0 ∧ w.cell? ⟨g, 1, none⟩ = some a1 ∧ w.cell? ⟨g, 2, none⟩ = some a2 ∧ w.frozen? ⟨g, 0, none⟩ = false ∧ w.frozen? ⟨g, 1, none⟩ = false ∧ w.frozen? ⟨g, 2, none⟩ = false := by
 refine ⟨?_, ?_, ?_, ?_, ?_, ?_⟩ <;> simp [World.cell?, World.frozen?, h]
theorem frz4 {w : World} {g T : Nat} {a0 a1 a2 a3 : Value} (h : w.heap[g]? = some (.cells #[a0, a1, a2, a3] T (0, 0))) : w.frozen? ⟨g, 0, none⟩ = false ∧ w.frozen? ⟨g, 1, none⟩ = false ∧ w.frozen? ⟨g, 2, none⟩ = false ∧ w.frozen? ⟨g, 3, none⟩ = false := by
 refine ⟨?_, ?_, ?_, ?_⟩ <;> simp [World.frozen?, h]
theorem set4 {w : World} {g T : Nat} {a0 a1 a2 a3 : Value} (h : w.heap[g]? = some (.cells #[a0, a1, a2, a3] T (0, 0))) (v0 v1 v2 v3 : Value) : ((((w.setCell ⟨g, 0, none⟩ v0).setCell ⟨g, 1, none⟩ v1).setCell ⟨g, 2, none⟩ v2).setCell ⟨g, 3, none⟩ v3).heap[g]? = some (.cells #[v0, v1, v2, v3] T (0, 0)) := by
 rw [set_block _ (set_block _ (set_block _ (set_block (w := w) _ h)))]
 rfl
theorem grown_own {w w' : World} {p g k : Nat} (h : w.grownBy w' (some p)) (hg : w.heap.size ≤ g) (v : Value) : w.grownBy (w'.setCell ⟨g, k, none⟩ v) (some p) :=
 ⟨h.os, h.tape, h.output, by simpa using h.size, fun j hj hne => (Below.heap_setCell _ _ _ _ (show j ≠ g by omega)).trans (h.block j hj hne)⟩
structure Cnt (w : World) (p : Nat) (s : ByteArray) (n0 n1 n2 : Int) (b : Nat) (wr : World) : Prop where
 cnt : wr.heap[w.heap.size + 1]? = some (.cells #[.int .i64 n0, .int .i64 n1, .int .i64 n2] 186 (0, 0))
 res : wr.heap[w.heap.size]? = some (.cells #[.int .i64 0, .string ⟨#[]⟩, .bool false, .string ⟨#[]⟩] 153 (0, 0))
 rd : RdAt wr p s b
 lt : p < w.heap.size
 grown : w.grownBy wr (some p)
theorem Cnt.next {w wr w' : World} {p : Nat} {s : ByteArray} {n0 n1 n2 : Int} {b b' : Nat} (c : Cnt w p s n0 n1 n2 b wr) (hg : wr.grownBy w' (some p)) (hr : RdAt w' p s b') : Cnt w p s n0 n1 n2 b' w' := by
 have := c.lt
 exact ⟨(hg.block _ (Array.getElem?_eq_some_iff.1 c.cnt).1 (fun e => by cases e; omega)).trans c.cnt, (hg.block _ (Array.getElem?_eq_some_iff.1 c.res).1 (fun e => by cases e; omega)).trans c.res, hr, c.lt, c.grown.trans hg⟩
theorem RdAt.far {w : World} {p g k : Nat} {s : ByteArray} {b : Int} (h : RdAt w p s b) (v : Value) (hne : p ≠ g) : RdAt (w.setCell ⟨g, k, none⟩ v) p s b := (Below.heap_setCell _ _ _ _ hne).trans h
theorem Cnt.put {w wr : World} {p : Nat} {s : ByteArray} {n0 n1 n2 m0 m1 m2 : Int} {b k : Nat} {v : Value} (c : Cnt w p s n0 n1 n2 b wr) (h : (#[Value.int .i64 n0, .int .i64 n1, .int .i64 n2]).setIfInBounds k v = #[.int .i64 m0, .int .i64 m1, .int .i64 m2]) : Cnt w p s m0 m1 m2 b (wr.setCell ⟨w.heap.size + 1, k, none⟩ v) := by
 have := c.lt
 refine ⟨?_, (Below.heap_setCell _ _ _ _ (show w.heap.size ≠ w.heap.size + 1 by omega)).trans c.res, c.rd.far _ (by omega), c.lt, grown_own c.grown (by omega) _⟩
 rw [set_block v c.cnt, h]
theorem cnt_new {w : World} {p : Nat} {s : ByteArray} {a : Nat} (h : RdAt w p s a) : Cnt w p s 0 0 0 a ((w.alloc (.cells #[.int .i64 0, .string ⟨#[]⟩, .bool false, .string ⟨#[]⟩] 153)).alloc (.cells #[.int .i64 0, .int .i64 0, .int .i64 0] 186)) := by
 have hb := two_below0 w (.cells #[.int .i64 0, .string ⟨#[]⟩, .bool false, .string ⟨#[]⟩] 153) (.cells #[.int .i64 0, .int .i64 0, .int .i64 0] 186)
 refine ⟨?_, ?_, (hb.block _ h.lt).trans h, h.lt, hb.os, hb.tape, hb.output, hb.size, fun k hk _ => hb.block k hk⟩
 · have := alloc_at (w.alloc (.cells #[.int .i64 0, .string ⟨#[]⟩, .bool false, .string ⟨#[]⟩] 153)) (.cells #[.int .i64 0, .int .i64 0, .int .i64 0] 186)
   simpa using this
 · exact (alloc_old _ _ (by simp)).trans (alloc_at w _)
def Pre3 (l : List UInt8) (a k : Nat) (n0 n1 n2 : Int) (b : Nat) : Prop :=
 (k = 0 ∧ b = a ∧ n0 = 0 ∧ n1 = 0 ∧ n2 = 0) ∨
 (k = 1 ∧ ∃ g1, getVarAt l (a : Int) = some g1 ∧ b = a + g1.length ∧ n0 = (varVal g1 : Nat) ∧ n1 = 0 ∧ n2 = 0) ∨
 (k = 2 ∧ ∃ g1 g2, getVarAt l (a : Int) = some g1 ∧ getVarAt l ((a + g1.length : Nat) : Int) = some g2 ∧ b = a + g1.length + g2.length ∧ n0 = (varVal g1 : Nat) ∧ n1 = (varVal g2 : Nat) ∧ n2 = 0) ∨
 (k = 3 ∧ ∃ sh m z : Nat, rdRaw l a = (if b + m + z / 2 ≤ l.length then some (sh, m, z, b) else none) ∧ n0 = sh ∧ n1 = m ∧ n2 = z ∧ m ≤ 4611686018427387903 ∧ z ≤ 4611686018427387903)
theorem pre3_no {l : List UInt8} {a k : Nat} {n0 n1 n2 : Int} {b : Nat} (h : Pre3 l a k n0 n1 n2 b) (hk : k < 3) (hn : getVarAt l (b : Int) = none) : rdRaw l a = none := by
 rcases h with ⟨_, rfl, _⟩ | ⟨_, g1, h1, rfl, _⟩ | ⟨_, g1, g2, h1, h2, rfl, _⟩ | ⟨rfl, _⟩
 · exact rd_no1 hn
 · exact rd_no2 h1 hn
 · exact rd_no3 h1 h2 hn
 · omega
theorem pre3_0 {l g : List UInt8} {a : Nat} {n0 n1 n2 : Int} {b : Nat} (h : Pre3 l a 0 n0 n1 n2 b) (hg : getVarAt l (b : Int) = some g) : Pre3 l a 1 (varVal g : Nat) n1 n2 (b + g.length) := by
 rcases h with ⟨_, rfl, rfl, rfl, rfl⟩ | ⟨h, _⟩ | ⟨h, _⟩ | ⟨h, _⟩
 · exact .inr (.inl ⟨rfl, g, hg, rfl, rfl, rfl, rfl⟩)
 all_goals omega
theorem pre3_1 {l g : List UInt8} {a : Nat} {n0 n1 n2 : Int} {b : Nat} (h : Pre3 l a 1 n0 n1 n2 b) (hg : getVarAt l (b : Int) = some g) : Pre3 l a 2 n0 (varVal g : Nat) n2 (b + g.length) := by
 rcases h with ⟨h, _⟩ | ⟨_, g1, h1, rfl, rfl, rfl, rfl⟩ | ⟨h, _⟩ | ⟨h, _⟩
 · omega
 · exact .inr (.inr (.inl ⟨rfl, g1, g, h1, hg, rfl, rfl, rfl, rfl⟩))
 all_goals omega
theorem pre3_2 {l g : List UInt8} {a : Nat} {n0 n1 n2 : Int} {b : Nat} (h : Pre3 l a 2 n0 n1 n2 b) (hg : getVarAt l (b : Int) = some g) : Pre3 l a 3 n0 n1 (varVal g : Nat) (b + g.length) := by
 rcases h with ⟨h, _⟩ | ⟨h, _⟩ | ⟨_, g1, g2, h1, h2, rfl, rfl, rfl, rfl⟩ | ⟨h, _⟩
 · omega
 · omega
 · exact .inr (.inr (.inr ⟨rfl, varVal g1, varVal g2, varVal g, rd_is h1 h2 hg, rfl, rfl, rfl, (get_pos h2).2.2, (get_pos hg).2.2⟩))
 · omega
theorem pre3_3 {l : List UInt8} {a : Nat} {n0 n1 n2 : Int} {b : Nat} (h : Pre3 l a 3 n0 n1 n2 b) : ∃ sh m z : Nat, rdRaw l a = (if b + m + z / 2 ≤ l.length then some (sh, m, z, b) else none) ∧ n0 = sh ∧ n1 = m ∧ n2 = z ∧ m ≤ 4611686018427387903 ∧ z ≤ 4611686018427387903 := by
 rcases h with ⟨h, _⟩ | ⟨h, _⟩ | ⟨h, _⟩ | ⟨_, h⟩
 · omega
 · omega
 · omega
 · exact h
def EntRead (w : World) (p : Nat) (s : ByteArray) (a : Nat) (e : Ending) (w' : World) : Prop :=
 w.grownBy w' (some p) ∧ ((∃ sh m z a3 : Nat, rdRaw s.data.toList a = some (sh, m, z, a3) ∧ e = .returned (.tuple #[.agg #[.int .i64 sh, .string (s.extract a3 (a3 + m)), .bool (decide (z % 2 = 1)), .string (s.extract (a3 + m) (a3 + m + z / 2))], .bool true]) ∧ RdAt w' p s (a3 + m + z / 2 : Nat)) ∨
   (rdRaw s.data.toList a = none ∧ ∃ (n : Int) (X : ByteArray) (b : Bool) (V : ByteArray), e = .returned (.tuple #[.agg #[.int .i64 n, .string X, .bool b, .string V], .bool false])))
theorem sizeEnt : (Tryz.prog.info? 153).map (·.size) = some 4 := by kernel_rfl

set_option maxHeartbeats 4000000 in
set_option maxRecDepth 100000 in
theorem takeEntry_at (p : Nat) (s : ByteArray) (a : Nat) (w : World) (h : RdAt w p s a) (hs : s.size ≤ 1048576) (ha : a ≤ s.size) :
   Calls Tryz.prog 162 #[.pointer (some ⟨p, 0, none⟩)] w (EntRead w p s a) := by
 have HLL := Lib.hid (show s.data.toList.length = s.size by simp)
 have C0 := Lib.hid (cnt_new h)
 have HS := Lib.hid (show s.size ≤ maxLen by unfold maxLen; omega)
 clear h
 go_enter Tryz.func162, Tryz.ntmps162
 go_wp2_with fail
 go_loopw [11] (fun ii wr => ∃ (k : Nat) (n0 n1 n2 : Int) (b : Nat), k ≤ 3 ∧ ii = .int .i64 k ∧ b ≤ s.size ∧ Hid (Cnt w p s n0 n1 n2 b wr ∧ Pre3 s.data.toList a k n0 n1 n2 b)) (fun ii _ => 3 - (intOf ii).toNat)
 case atStart => exact ⟨0, 0, 0, 0, a, by omega, rfl, ha, ⟨C0.out, .inl ⟨rfl, rfl, rfl, rfl, rfl⟩⟩⟩
 case round =>
   obtain ⟨k, n0, n1, n2, b, hk, rfl, hb, HX⟩ := hrel
   by_cases hk3 : k < 3
   · have i1 : (k : Int) < 3 := by omega
     go_wp2_with fail
     refine (takeVar_in p s b _ HX.out.1.rd HS.out hb).mono ?_
     rintro e w1 ⟨hg, (⟨g, hgv, rfl, hr⟩ | ⟨hgv, rfl⟩)⟩
     · have hpos := get_pos hgv
       rw [HLL.out] at hpos
       have C1 := Lib.hid (HX.out.1.next (b' := b + g.length) hg (by have e : ((b + g.length : Nat) : Int) = (b : Int) + (g.length : Int) := by omega
                                                                     rw [e]; exact hr))
       have HG := Lib.hid hgv
       clear hg hr hgv
       obtain ⟨d0, d1, d2, f0, f1, f2⟩ := blk3 C1.out.cnt
       obtain ⟨v, hv⟩ : ∃ v : Nat, varVal g = v := ⟨_, rfl⟩
       have HV := Lib.hid hv
       rw [hv]
       clear hv
       have h3 : k = 0 ∨ k = 1 ∨ k = 2 := by omega
       rcases h3 with rfl | rfl | rfl
       · go_wp2_with fail
         go_roundw
         case rel => exact ⟨1, _, _, _, b + g.length, by omega, by go_num, by omega, ⟨C1.out.put (by rfl), by rw [← HV.out]; exact pre3_0 HX.out.2 HG.out⟩⟩
         case measure => simp [intOf]
       · go_wp2_with fail
         go_roundw
         case rel => exact ⟨2, _, _, _, b + g.length, by omega, by go_num, by omega, ⟨C1.out.put (by rfl), by rw [← HV.out]; exact pre3_1 HX.out.2 HG.out⟩⟩
         case measure => simp [intOf]
       · go_wp2_with fail
         go_roundw
         case rel => exact ⟨3, _, _, _, b + g.length, by omega, by go_num, by omega, ⟨C1.out.put (by rfl), by rw [← HV.out]; exact pre3_2 HX.out.2 HG.out⟩⟩
         case measure => simp [intOf]
     · have HN := Lib.hid (pre3_no HX.out.2 hk3 hgv)
       have G1 := Lib.hid (HX.out.1.grown.trans hg)
       have r1 : w1.heap[w.heap.size]? = some (.cells #[.int .i64 0, .string ⟨#[]⟩, .bool false, .string ⟨#[]⟩] 153 (0, 0)) := (hg.block _ (Array.getElem?_eq_some_iff.1 HX.out.1.res).1 (fun e => by cases e; have := HX.out.1.lt; omega)).trans HX.out.1.res
       have R1 := Lib.hid r1
       obtain ⟨c0, c1, c2, c3⟩ := blk4 r1
       obtain ⟨z0, z1, z2, z3⟩ := frz4 r1
       clear hgv hg r1
       go_wp2_with fail
       refine bodyPost_ret (v := .tuple #[.agg #[.int .i64 0, .string ⟨#[]⟩, .bool false, .string ⟨#[]⟩], .bool false]) (res_cell_bool Tryz.results162 _ _ w.heap.size _ _ _ _ rfl rfl (set4 R1.out _ _ _ _) Tryz.underlying153 rfl (by rw [sizeEnt]; rfl)) rfl ?_
       exact ⟨grown_own (grown_own (grown_own (grown_own G1.out (Nat.le_refl _) _) (Nat.le_refl _) _) (Nat.le_refl _) _) (Nat.le_refl _) _, .inr ⟨HN.out, _, _, _, _, rfl⟩⟩
   · obtain rfl : k = 3 := by omega
     obtain ⟨sh, m, z, hrd, rfl, rfl, rfl, hm, hz⟩ := pre3_3 HX.out.2
     have HRD := Lib.hid hrd
     have CC := Lib.hid HX.out.1
     clear hrd HX C0
     obtain ⟨d0, d1, d2, f0, f1, f2⟩ := blk3 CC.out.cnt
     by_cases h1 : b + m ≤ s.size
     · go_wp2_with fail
       refine (take_yes p s b m _ CC.out.rd HS.out h1).mono ?_
       rintro e w1 ⟨rfl, hr, hg⟩
       have C1 := Lib.hid (CC.out.next hg hr)
       clear hr hg d0 d1 d2 f0 f1 f2 CC
       obtain ⟨d0, d1, d2, f0, f1, f2⟩ := blk3 C1.out.cnt
       obtain ⟨q, hq⟩ : ∃ q, z / 2 = q := ⟨_, rfl⟩
       have hq1 : (z : Int) / 2 = (q : Int) := by omega
       have hq2 : IntKind.i64.wrap (q : Int) = (q : Int) := IntWalk.i64_in _ (by omega)
       obtain ⟨G, hG⟩ : ∃ G, decide (z % 2 = 1) = G := ⟨_, rfl⟩
       have hG2 : ((z : Int) % 2 == 1) = G := by rw [← hG, Bool.eq_iff_iff]; simp; omega
       have HQ := Lib.hid hq
       have HGG := Lib.hid hG
       clear hq hG
       by_cases h2 : b + m + q ≤ s.size
       · have HR2 := Lib.hid (show rdRaw s.data.toList a = some (sh, m, z, b) by rw [HRD.out, if_pos (by rw [HLL.out, HQ.out]; exact h2)])
         go_wp2_with fail
         refine (take_yes p s (b + m) q _ C1.out.rd HS.out h2).mono ?_
         rintro e w2 ⟨rfl, hr, hg⟩
         have C2 := Lib.hid (C1.out.next hg hr)
         clear hr hg d0 d1 d2 f0 f1 f2 C1
         obtain ⟨d0, d1, d2, f0, f1, f2⟩ := blk3 C2.out.cnt
         obtain ⟨c0, c1, c2, c3⟩ := blk4 C2.out.res
         obtain ⟨z0, z1, z2, z3⟩ := frz4 C2.out.res
         go_wp2_with fail
         refine bodyPost_ret (v := .tuple #[.agg #[.int .i64 sh, .string (s.extract b (b + m)), .bool G, .string (s.extract (b + m) (b + m + q))], .bool true]) (res_cell_bool Tryz.results162 _ _ w.heap.size _ _ _ _ rfl rfl (set4 C2.out.res _ _ _ _) Tryz.underlying153 rfl (by rw [sizeEnt]; rfl)) rfl ?_
         refine ⟨grown_own (grown_own (grown_own (grown_own C2.out.grown (Nat.le_refl _) _) (Nat.le_refl _) _) (Nat.le_refl _) _) (Nat.le_refl _) _, .inl ⟨sh, m, z, b, HR2.out, ?_, ?_⟩⟩
         · rw [HGG.out, HQ.out]
         · rw [HQ.out]
           exact (((C2.out.rd.far _ (by have := C2.out.lt; omega)).far _ (by have := C2.out.lt; omega)).far _ (by have := C2.out.lt; omega)).far _ (by have := C2.out.lt; omega)
       · have HR2 := Lib.hid (show rdRaw s.data.toList a = none by rw [HRD.out, if_neg (by rw [HLL.out, HQ.out]; exact h2)])
         go_wp2_with fail
         refine (take_no p s _ q _ C1.out.rd HS.out (by omega)).mono ?_
         rintro e w2 ⟨rfl, nn, rfl⟩
         have C2 := Lib.hid (C1.out.next (w' := w1.drewN nn) (grown_drewN _ _ _) (C1.out.rd.drewN nn))
         clear d0 d1 d2 f0 f1 f2 C1
         generalize w1.drewN nn = w2 at *
         obtain ⟨d0, d1, d2, f0, f1, f2⟩ := blk3 C2.out.cnt
         obtain ⟨c0, c1, c2, c3⟩ := blk4 C2.out.res
         obtain ⟨z0, z1, z2, z3⟩ := frz4 C2.out.res
         go_wp2_with fail
         refine bodyPost_ret (v := .tuple #[.agg #[.int .i64 sh, .string (s.extract b (b + m)), .bool G, .string ⟨#[]⟩], .bool false]) (res_cell_bool Tryz.results162 _ _ w.heap.size _ _ _ _ rfl rfl (set4 C2.out.res _ _ _ _) Tryz.underlying153 rfl (by rw [sizeEnt]; rfl)) rfl ?_
         exact ⟨grown_own (grown_own (grown_own (grown_own C2.out.grown (Nat.le_refl _) _) (Nat.le_refl _) _) (Nat.le_refl _) _) (Nat.le_refl _) _, .inr ⟨HR2.out, _, _, _, _, rfl⟩⟩
     · have HR2 := Lib.hid (show rdRaw s.data.toList a = none by rw [HRD.out, if_neg (by rw [HLL.out]; omega)])
       go_wp2_with fail
       refine (take_no p s _ m _ CC.out.rd HS.out (by omega)).mono ?_
       rintro e w2 ⟨rfl, nn, rfl⟩
       have C2 := Lib.hid (CC.out.next (w' := wr.drewN nn) (grown_drewN _ _ _) (CC.out.rd.drewN nn))
       clear d0 d1 d2 f0 f1 f2 CC
       generalize wr.drewN nn = w2 at *
       obtain ⟨c0, c1, c2, c3⟩ := blk4 C2.out.res
       obtain ⟨z0, z1, z2, z3⟩ := frz4 C2.out.res
       go_wp2_with fail
       refine bodyPost_ret (v := .tuple #[.agg #[.int .i64 0, .string ⟨#[]⟩, .bool false, .string ⟨#[]⟩], .bool false]) (res_cell_bool Tryz.results162 _ _ w.heap.size _ _ _ _ rfl rfl (set4 C2.out.res _ _ _ _) Tryz.underlying153 rfl (by rw [sizeEnt]; rfl)) rfl ?_
       exact ⟨grown_own (grown_own (grown_own (grown_own C2.out.grown (Nat.le_refl _) _) (Nat.le_refl _) _) (Nat.le_refl _) _) (Nat.le_refl _) _, .inr ⟨HR2.out, _, _, _, _, rfl⟩⟩
end Go.Proofs.YtkomnnijnggbpaaGreatDoor
