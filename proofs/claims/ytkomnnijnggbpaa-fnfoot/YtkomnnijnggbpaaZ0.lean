/- Small facts that the other texts share: endings, bytes of a text, new blocks. -/
import Derived.WalkKit
import Derived.WalkSpells
import Derived.WalkLawsBesides
import Derived.Deep.QuietTactic
import Derived.BigQuiet
import Derived.Lib.Hide
import Derived.Maps.AppendAt
import GoSem.Op.String
import Derived.Test.YtkomnnijnggbpaaProg
import Derived.Laws.Rows
import Derived.RangeFuncBox
import Derived.Laws.AppendOwn
import Derived.Laws.BitsAllLaws
import Derived.Laws.BytesArg
import Derived.Deep.RegionHeld3
import Derived.Laws.IdiomStrings
import Derived.Lib.AppendStr
import Derived.Laws.MakeOwn
import Derived.Scope
import Derived.ControlIn
import Derived.WalkMore
import Derived.OrdersIn
import Derived.TacticsIn
import Derived.Deep.RegionHeld
namespace Go.Proofs.Ytkomnnijnggbpaa
open Go.RowKit
set_option linter.unusedVariables false

theorem ret_int {k : IntKind} {a b : Int} (h : a = b) : Ending.returned (.int k a) = .returned (.int k b) := by rw [h]
theorem ret_bool {a b : Bool} (h : a = b) : Ending.returned (.bool a) = .returned (.bool b) := by rw [h]
theorem ret_text {a b : List UInt8} (h : a = b) : Ending.returned (.string ⟨a.toArray⟩) = .returned (.string ⟨b.toArray⟩) := by rw [h]

theorem byte_at (s : ByteArray) (k : Nat) (h : k < s.size) : s.data.toList[k]? = some s[k] := by
 rw [List.getElem?_eq_getElem (by simpa using h)]; rfl
theorem take_snoc (s : ByteArray) (k : Nat) (h : k < s.size) : s.data.toList.take (k + 1) = s.data.toList.take k ++ [s[k]] := by
 rw [List.take_succ_eq_append_getElem (by simpa using h)]; rfl
theorem bytes_ext {a b : ByteArray} (h : a.data.toList = b.data.toList) : a = b := by
 cases a; cases b; simp only at h; rw [Array.toList_inj.1 h]

theorem bne_of_beq {a b : Int} (h : (a == b) = true) : (a != b) = false := by simpa using h
theorem bne_of_nbeq {a b : Int} (h : (a == b) = false) : (a != b) = true := by simpa using h

theorem set_block {w : World} {p k T : Nat} {cs : Array Value} {fz : Nat × Nat} (v : Value) (h : w.heap[p]? = some (.cells cs T fz)) : (w.setCell ⟨p, k, none⟩ v).heap[p]? = some (.cells (cs.setIfInBounds k v) T fz) := by
 simp [World.setCell, Array.getElem?_modify, h]
theorem grown_set (w : World) (p k : Nat) (v : Value) : w.grownBy (w.setCell ⟨p, k, none⟩ v) (some p) :=
 ⟨rfl, rfl, rfl, by simp [World.setCell], fun j hj hne => Below.heap_setCell _ _ _ _ (fun e => hne (by rw [e]))⟩
theorem grown_drewN (w : World) (n : Nat) (row : Option Nat) : w.grownBy (w.drewN n) row := ⟨rfl, rfl, rfl, Nat.le_refl _, fun _ _ _ => rfl⟩
theorem grown_refl (w : World) (row : Option Nat) : w.grownBy w row := ⟨rfl, rfl, rfl, Nat.le_refl _, fun _ _ _ => rfl⟩

theorem cell_lt {w : World} {a : Addr} {v : Value} (h : w.cell? a = some v) : a.block < w.heap.size := by
 unfold World.cell? at h
 by_cases hb : a.block < w.heap.size
 · exact hb
 · rw [Array.getElem?_eq_none (by omega)] at h; cases h

theorem below_draws {w : World} {B : Nat} (n : Nat) : Below B w (w.drewN n) := ⟨rfl, rfl, rfl, Nat.le_refl _, fun _ _ => rfl⟩

theorem below_new {w w1 w2 : World} (g0 : w.grownBy w1 none) (g1 : w1.grownBy w2 (some w.heap.size)) : Below w.heap.size w w2 :=
 ⟨g1.os.trans g0.os, g1.tape.trans g0.tape, g1.output.trans g0.output, Nat.le_trans g0.size g1.size, fun k hk => (g1.block k (by have := g0.size; omega) (by simp; omega)).trans (g0.block k hk (by simp))⟩

def IsRow (k : IntKind) (w : World) (a : Option Addr) (len cap : Nat) (zs : List Int) : Prop :=
 (a = none ∧ len = 0 ∧ cap = 0 ∧ zs = []) ∨
 ∃ x, a = some x ∧ len ≤ cap ∧ cap ≤ maxLen ∧ zs.length = cap ∧ (∀ i, i < zs.length → w.cell? (x.add i) = some (.int k (zs.getD i 0))) ∧ ∀ n ∈ zs, (Lit.int k n).wf = true

theorem wf_u8 {n : Int} (h : (Lit.int .u8 n).wf = true) : 0 ≤ n ∧ n ≤ 255 := by
 simp [Lit.wf, IntKind.min, IntKind.max, IntKind.signed, IntKind.bits] at h; omega
end Go.Proofs.Ytkomnnijnggbpaa
/- Plain mathematics of texts: how many bytes two lists begin alike with, and which of two stands ahead. No condition. -/
namespace Go.Proofs.Ytkomnnijnggbpaa

def shared : List UInt8 → List UInt8 → Nat
 | a :: us, b :: bs => if a = b then shared us bs + 1 else 0
 | _, _ => 0

theorem shared_le_left : ∀ a b : List UInt8, shared a b ≤ a.length
 | [], _ => by simp [shared]
 | a :: us, [] => by simp [shared]
 | a :: us, b :: bs => by
   have := shared_le_left us bs
   unfold shared
   split <;> simp <;> omega

theorem shared_le_right : ∀ a b : List UInt8, shared a b ≤ b.length
 | [], _ => by simp [shared]
 | a :: us, [] => by simp [shared]
 | a :: us, b :: bs => by
   have := shared_le_right us bs
   unfold shared
   split <;> simp <;> omega

theorem shared_eq : ∀ (k : Nat) (a b : List UInt8), k ≤ a.length → k ≤ b.length → (∀ i, i < k → a[i]? = b[i]?) →
   (k = a.length ∨ k = b.length ∨ a[k]? ≠ b[k]?) → shared a b = k
 | 0, a, b, _, _, _, he => by
   match a, b with
   | [], _ => simp [shared]
   | _ :: _, [] => simp [shared]
   | x :: us, y :: bs =>
     simp at he
     simp [shared, he]
 | k + 1, a, b, ha, hb, hl, he => by
   match a, b with
   | [], _ => simp at ha
   | _ :: _, [] => simp at hb
   | x :: us, y :: bs =>
     have h0 := hl 0 (by omega)
     simp at h0
     subst h0
     have := shared_eq k us bs (by simpa using ha) (by simpa using hb) (fun i hi => by simpa using hl (i + 1) (by omega)) (by simpa using he)
     simp [shared, this]

def ahead (a b : List UInt8) : Bool :=
 if shared a b < a.length ∧ shared a b < b.length then decide ((a.getD (shared a b) 0).toNat < (b.getD (shared a b) 0).toNat) else decide (a.length < b.length)

theorem ahead_def (a b : List UInt8) : ahead a b = if shared a b < a.length ∧ shared a b < b.length then decide ((a.getD (shared a b) 0).toNat < (b.getD (shared a b) 0).toNat) else decide (a.length < b.length) := rfl

theorem ahead_less : ∀ a b : List UInt8, Op.bytesLess a b = ahead a b
 | [], [] => by simp [Op.bytesLess, ahead]
 | a :: us, [] => by simp [Op.bytesLess, ahead]
 | [], b :: bs => by simp [Op.bytesLess, ahead]
 | a :: us, b :: bs => by
   have ih := ahead_less us bs
   unfold Op.bytesLess
   by_cases h : a = b
   · subst h
     rw [ih]
     unfold ahead
     have e : shared (a :: us) (a :: bs) = shared us bs + 1 := by simp [shared]
     rw [e]
     simp [UInt8.lt_irrefl]
   · have e : shared (a :: us) (b :: bs) = 0 := by simp [shared, h]
     simp [ahead, e, h, UInt8.lt_iff_toNat_lt]

theorem less_total : ∀ a b : List UInt8, a ≠ b → Op.bytesLess a b = false → Op.bytesLess b a = true
 | [], [], h, _ => absurd rfl h
 | a :: us, [], _, _ => by simp [Op.bytesLess]
 | [], b :: bs, _, h => by simp [Op.bytesLess] at h
 | a :: us, b :: bs, hne, h => by
   simp only [Op.bytesLess, Bool.or_eq_false_iff, decide_eq_false_iff_not, Bool.and_eq_false_iff, beq_eq_false_iff_ne] at h
   simp only [Op.bytesLess, Bool.or_eq_true, decide_eq_true_eq, Bool.and_eq_true, beq_iff_eq]
   by_cases e : a = b
   · subst e
     refine Or.inr ⟨rfl, less_total us bs (fun e => hne (by rw [e])) ?_⟩
     rcases h.2 with h2 | h2
     · exact absurd rfl h2
     · exact h2
   · have h1 := h.1
     rw [UInt8.lt_iff_toNat_lt] at h1
     rw [UInt8.lt_iff_toNat_lt]
     have : a.toNat ≠ b.toNat := fun e2 => e (UInt8.toNat_inj.1 e2)
     exact Or.inl (by omega)

end Go.Proofs.Ytkomnnijnggbpaa
/- Plain mathematics of numbers in bytes. -/
namespace Go.Proofs.Ytkomnnijnggbpaa
set_option linter.unusedVariables false

def fixB (n k : Nat) : List UInt8 := (List.range k).map fun i => UInt8.ofNat (n / 2 ^ (8 * i))
theorem fix_length (n k : Nat) : (fixB n k).length = k := by simp [fixB]
theorem fix_succ (n k : Nat) : fixB n (k + 1) = fixB n k ++ [UInt8.ofNat (n / 2 ^ (8 * k))] := by simp [fixB, List.range_succ]
def fixVal : List UInt8 → Nat
 | [] => 0
 | c :: l => c.toNat + 256 * fixVal l
theorem fixVal_snoc (l : List UInt8) (c : UInt8) : fixVal (l ++ [c]) = fixVal l + 2 ^ (8 * l.length) * c.toNat := by
 induction l with
 | nil => simp [fixVal]
 | cons a l ih =>
   simp only [List.cons_append, fixVal, ih, List.length_cons]
   have : 2 ^ (8 * (l.length + 1)) = 256 * 2 ^ (8 * l.length) := by rw [Nat.mul_add, Nat.pow_add]; omega
   rw [this, Nat.mul_add, Nat.mul_assoc]; omega
theorem fixVal_lt (l : List UInt8) : fixVal l < 2 ^ (8 * l.length) := by
 induction l with
 | nil => simp [fixVal]
 | cons a l ih =>
   simp only [fixVal, List.length_cons]
   have : 2 ^ (8 * (l.length + 1)) = 256 * 2 ^ (8 * l.length) := by rw [Nat.mul_add, Nat.pow_add]; omega
   have ha := a.toNat_lt
   omega
theorem fixVal_fix (n k : Nat) : fixVal (fixB n k) = n % 2 ^ (8 * k) := by
 induction k with
 | zero => simp [fixB, fixVal, Nat.mod_one]
 | succ k ih =>
   rw [fix_succ, fixVal_snoc, ih, fix_length]
   have e : 2 ^ (8 * (k + 1)) = 2 ^ (8 * k) * 256 := by rw [Nat.mul_add, Nat.pow_add]
   rw [e, Nat.mod_mul]
   simp
theorem fix_cons (n k : Nat) : fixB n (k + 1) = UInt8.ofNat n :: fixB (n / 256) k := by
 unfold fixB
 rw [List.range_succ_eq_map]
 simp only [List.map_cons, List.map_map, Nat.mul_zero, Nat.pow_zero, Nat.div_one]
 congr 1
 apply List.map_congr_left
 intro i hi
 simp only [Function.comp]
 congr 1
 rw [Nat.div_div_eq_div_mul]
 congr 1
 rw [Nat.succ_eq_add_one, Nat.mul_add, Nat.pow_add]; omega
theorem fix_inj {n m k : Nat} (h : fixB n k = fixB m k) : n % 2 ^ (8 * k) = m % 2 ^ (8 * k) := by rw [← fixVal_fix, ← fixVal_fix, h]

def putFix (n b : Int) : List UInt8 := if 0 ≤ n ∧ 1 ≤ b ∧ b ≤ 4 then fixB n.toNat b.toNat else []
def getFix (l : List UInt8) (at_ b : Int) : Int := if 1 ≤ b ∧ b ≤ 4 ∧ 0 ≤ at_ ∧ at_ + b ≤ l.length then fixVal ((l.drop at_.toNat).take b.toNat) else -1

def varB (n : Nat) : List UInt8 := if h : n < 128 then [UInt8.ofNat n] else UInt8.ofNat (n % 128 + 128) :: varB (n / 128)
termination_by n
decreasing_by omega
theorem var_small {n : Nat} (h : n < 128) : varB n = [UInt8.ofNat n] := by rw [varB, dif_pos h]
theorem var_step {n : Nat} (h : 128 ≤ n) : varB n = UInt8.ofNat (n % 128 + 128) :: varB (n / 128) := by rw [varB, dif_neg (by omega)]
theorem var_len_le (k : Nat) : ∀ n, n < 2 ^ (7 * (k + 1)) → (varB n).length ≤ k + 1 := by
 induction k with
 | zero => intro n h; rw [var_small (by simpa using h)]; simp
 | succ k ih =>
   intro n h
   by_cases h1 : n < 128
   · rw [var_small h1]; simp
   · rw [var_step (by omega)]
     have e : 2 ^ (7 * (k + 1 + 1)) = 128 * 2 ^ (7 * (k + 1)) := by rw [Nat.mul_add 7 (k + 1) 1, Nat.pow_add]; omega
     have := ih (n / 128) (by omega)
     simp only [List.length_cons]
     omega
def putVar (n : Int) : List UInt8 := if 0 ≤ n ∧ n ≤ 4611686018427387903 then varB n.toNat else []
def More (L : List UInt8) (i : Nat) : Prop := i ≤ L.length ∧ ∀ c ∈ L.take i, 128 ≤ c.toNat
theorem More.succ {L : List UInt8} {i : Nat} {c : UInt8} (h : More L i) (hc : L[i]? = some c) (h1 : 128 ≤ c.toNat) : More L (i + 1) := by
 obtain ⟨hi, e⟩ := List.getElem?_eq_some_iff.1 hc
 refine ⟨by omega, fun d hd => ?_⟩
 rw [List.take_succ_eq_append_getElem hi, List.mem_append] at hd
 rcases hd with hd | hd
 · exact h.2 d hd
 · simp at hd; rw [hd, e]; exact h1
theorem putVar_in {n : Nat} (h : n ≤ 4611686018427387903) : putVar n = varB n := by unfold putVar; rw [if_pos (by omega), Int.toNat_natCast]
end Go.Proofs.Ytkomnnijnggbpaa
/- Names, cells, their keys and their order: keys come back, and stand as their cells do. -/
namespace Go.Proofs.Ytkomnnijnggbpaa
open Go.RowKit
set_option linter.unusedVariables false

structure Cel where
 row : ByteArray
 col : ByteArray
 time : Int
 gone : Bool
 value : ByteArray

def sign (c : UInt8) : Bool := decide (33 ≤ c.toNat) && decide (c.toNat ≤ 126)
def nameOk (l : List UInt8) : Bool := l.all sign && decide (1 ≤ l.length) && decide (l.length ≤ 16)
def timeOk (t : Int) : Bool := decide (0 ≤ t) && decide (t ≤ 1000000000)
def cellOk (x : Cel) : Bool := nameOk x.row.data.toList && nameOk x.col.data.toList && timeOk x.time && decide (x.value.size ≤ 30) && (!x.gone || x.value.data.toList.isEmpty)

theorem sign_no {c : UInt8} (h : c.toNat < 33 ∨ 126 < c.toNat) : sign c = false := by unfold sign; rcases h with h | h <;> simp <;> omega
theorem sign_yes {c : UInt8} (h1 : 33 ≤ c.toNat) (h2 : c.toNat ≤ 126) : sign c = true := by unfold sign; simp; omega
theorem sign_bd {c : UInt8} (h : sign c = true) : 33 ≤ c.toNat ∧ c.toNat ≤ 126 := by simpa [sign] using h
theorem name_bad {l : List UInt8} {k : Nat} {c : UInt8} (hk : l[k]? = some c) (h : sign c = false) : nameOk l = false := by
 have hm : c ∈ l := List.mem_of_getElem? hk
 unfold nameOk
 rw [show l.all sign = false from List.all_eq_false.2 ⟨c, hm, by simp [h]⟩]
 rfl
theorem name_len {l : List UInt8} (h : l.length < 1 ∨ 16 < l.length) : nameOk l = false := by
 unfold nameOk
 rcases h with h | h
 · rw [show decide (1 ≤ l.length) = false from decide_eq_false (by omega)]; simp
 · rw [show decide (l.length ≤ 16) = false from decide_eq_false (by omega)]; simp
theorem name_good {l : List UInt8} (h : ∀ j, j < l.length → ∃ c, l[j]? = some c ∧ sign c = true) (h1 : 1 ≤ l.length) (h2 : l.length ≤ 16) : nameOk l = true := by
 unfold nameOk
 have : l.all sign = true := List.all_eq_true.2 (fun c hc => by
   obtain ⟨j, hj⟩ := List.mem_iff_getElem?.1 hc
   obtain ⟨d, hd, hs⟩ := h j (List.getElem?_eq_some_iff.1 hj).1
   rw [hj] at hd
   cases hd
   exact hs)
 simp [this, h1, h2]
theorem name_parts {l : List UInt8} (h : nameOk l = true) : (∀ c ∈ l, sign c = true) ∧ 1 ≤ l.length ∧ l.length ≤ 16 := by
 unfold nameOk at h
 simp only [Bool.and_eq_true, decide_eq_true_eq, List.all_eq_true] at h
 exact ⟨h.1.1, h.1.2, h.2⟩
theorem time_no {t : Int} (h : t < 0 ∨ 1000000000 < t) : timeOk t = false := by unfold timeOk; rcases h with h | h <;> simp <;> omega
theorem time_yes {t : Int} (h1 : 0 ≤ t) (h2 : t ≤ 1000000000) : timeOk t = true := by unfold timeOk; simp; omega
theorem time_bd {t : Int} (h : timeOk t = true) : 0 ≤ t ∧ t ≤ 1000000000 := by simpa [timeOk] using h

def key (r c : List UInt8) (t : Int) : List UInt8 := r ++ 0 :: (c ++ 0 :: (fixB (1000000000 - t).toNat 4).reverse)
def keyOk (r c : List UInt8) (t : Int) : Bool := nameOk r && nameOk c && timeOk t
def keyOf (r c : List UInt8) (t : Int) : List UInt8 := if keyOk r c t = true then key r c t else []
theorem key_len (r c : List UInt8) (t : Int) : (key r c t).length = r.length + c.length + 6 := by unfold key; simp [fix_length]; omega
theorem keyOf_yes {r c : List UInt8} {t : Int} (h : keyOk r c t = true) : keyOf r c t = key r c t := if_pos h
theorem keyOf_no {r c : List UInt8} {t : Int} (h : keyOk r c t = false) : keyOf r c t = [] := if_neg (by simp [h])
theorem keyOk_parts {r c : List UInt8} {t : Int} (h : keyOk r c t = true) : nameOk r = true ∧ nameOk c = true ∧ timeOk t = true := by
 unfold keyOk at h
 simp only [Bool.and_eq_true] at h
 exact ⟨h.1.1, h.1.2, h.2⟩

def celBefore (a b : Cel) : Bool :=
 if a.row.data.toList = b.row.data.toList then (if a.col.data.toList = b.col.data.toList then decide (b.time < a.time) else ahead a.col.data.toList b.col.data.toList) else ahead a.row.data.toList b.row.data.toList

theorem less_cut : ∀ (r r' x y : List UInt8), (∀ c ∈ r, sign c = true) → (∀ c ∈ r', sign c = true) → Op.bytesLess (r ++ 0 :: x) (r' ++ 0 :: y) = if r = r' then Op.bytesLess x y else Op.bytesLess r r'
 | [], [], x, y, _, _ => by simp [Op.bytesLess]
 | [], b :: bs, x, y, _, h => by
   have := sign_bd (h b (by simp))
   simp [Op.bytesLess, UInt8.lt_iff_toNat_lt]
   omega
 | a :: us, [], x, y, h, _ => by
   have := sign_bd (h a (by simp))
   have h0 : a ≠ 0 := by rintro rfl; simp at this
   simp [Op.bytesLess, UInt8.lt_iff_toNat_lt, h0]
 | a :: us, b :: bs, x, y, h1, h2 => by
   have ih := less_cut us bs x y (fun c hc => h1 c (by simp [hc])) (fun c hc => h2 c (by simp [hc]))
   simp only [List.cons_append, Op.bytesLess, ih, List.cons.injEq]
   by_cases e : a = b
   · subst e
     by_cases e2 : us = bs
     · simp [e2]
     · simp [e2]
   · have e' : (a == b) = false := by simpa using e
     simp [e, e']
theorem less_snoc : ∀ (a b : List UInt8) (c d : UInt8), a.length = b.length → Op.bytesLess (a ++ [c]) (b ++ [d]) = (Op.bytesLess a b || (decide (a = b) && decide (c < d)))
 | [], [], c, d, _ => by simp [Op.bytesLess]
 | [], b :: bs, c, d, h => by simp at h
 | a :: us, [], c, d, h => by simp at h
 | a :: us, b :: bs, c, d, h => by
   have ih := less_snoc us bs c d (by simpa using h)
   simp only [List.cons_append, Op.bytesLess, ih, List.cons.injEq]
   by_cases e : a = b
   · subst e; simp [UInt8.lt_iff_toNat_lt]
   · have e' : (a == b) = false := by simpa using e
     simp [e, e']
theorem less_fix (k : Nat) : ∀ n m : Nat, n < 2 ^ (8 * k) → m < 2 ^ (8 * k) → Op.bytesLess (fixB n k).reverse (fixB m k).reverse = decide (n < m) := by
 induction k with
 | zero => intro n m hn hm; simp at hn hm; subst hn hm; simp [fixB, Op.bytesLess]
 | succ k ih =>
   intro n m hn hm
   have hp : 2 ^ (8 * (k + 1)) = 2 ^ (8 * k) * 256 := by rw [show 8 * (k + 1) = 8 * k + 8 by omega, Nat.pow_add]
   rw [hp] at hn hm
   have hn' : n / 256 < 2 ^ (8 * k) := Nat.div_lt_of_lt_mul (by rw [Nat.mul_comm]; exact hn)
   have hm' : m / 256 < 2 ^ (8 * k) := Nat.div_lt_of_lt_mul (by rw [Nat.mul_comm]; exact hm)
   rw [fix_cons, fix_cons, List.reverse_cons, List.reverse_cons, less_snoc _ _ _ _ (by simp [fix_length]), ih _ _ hn' hm']
   have he : ((fixB (n / 256) k).reverse = (fixB (m / 256) k).reverse) ↔ n / 256 = m / 256 := by
     rw [List.reverse_inj]
     constructor
     · intro h
       have h1 := fix_inj h
       rwa [Nat.mod_eq_of_lt hn', Nat.mod_eq_of_lt hm'] at h1
     · intro h; rw [h]
   have hd : decide ((fixB (n / 256) k).reverse = (fixB (m / 256) k).reverse) = decide (n / 256 = m / 256) := decide_eq_decide.2 he
   rw [hd]
   simp only [UInt8.lt_iff_toNat_lt, UInt8.toNat_ofNat']
   rw [Bool.eq_iff_iff]
   simp only [Bool.or_eq_true, Bool.and_eq_true, decide_eq_true_eq]
   omega
theorem less_key {r c r' c' : List UInt8} {t t' : Int} (h1 : keyOk r c t = true) (h2 : keyOk r' c' t' = true) : Op.bytesLess (key r c t) (key r' c' t') = if r = r' then (if c = c' then decide (t' < t) else Op.bytesLess c c') else Op.bytesLess r r' := by
 obtain ⟨a1, a2, a3⟩ := keyOk_parts h1
 obtain ⟨b1, b2, b3⟩ := keyOk_parts h2
 have := time_bd a3
 have := time_bd b3
 unfold key
 rw [less_cut _ _ _ _ (name_parts a1).1 (name_parts b1).1, less_cut _ _ _ _ (name_parts a2).1 (name_parts b2).1, less_fix 4 _ _ (by omega) (by omega)]
 have : decide ((1000000000 - t).toNat < (1000000000 - t').toNat) = decide (t' < t) := by rw [decide_eq_decide]; omega
 rw [this]
theorem less_trans : ∀ a b c : List UInt8, Op.bytesLess a b = true → Op.bytesLess b c = true → Op.bytesLess a c = true
 | [], _, [], h1, h2 => by
   rename_i b
   cases b <;> simp [Op.bytesLess] at h2 h1
 | [], _, c :: cs, _, _ => by simp [Op.bytesLess]
 | a :: us, [], _, h1, _ => by simp [Op.bytesLess] at h1
 | a :: us, b :: bs, [], _, h2 => by simp [Op.bytesLess] at h2
 | a :: us, b :: bs, c :: cs, h1, h2 => by
   have ih := less_trans us bs cs
   simp only [Op.bytesLess, Bool.or_eq_true, decide_eq_true_eq, Bool.and_eq_true, beq_iff_eq, UInt8.lt_iff_toNat_lt] at h1 h2 ⊢
   rcases h1 with h1 | ⟨rfl, h1⟩
   · rcases h2 with h2 | ⟨rfl, h2⟩
     · exact .inl (by omega)
     · exact .inl h1
   · rcases h2 with h2 | ⟨rfl, h2⟩
     · exact .inl h2
     · exact .inr ⟨rfl, ih h1 h2⟩

def celKey (x : Cel) : List UInt8 := keyOf x.row.data.toList x.col.data.toList x.time
theorem cel_keyOk {x : Cel} (h : cellOk x = true) : keyOk x.row.data.toList x.col.data.toList x.time = true := by
 unfold cellOk at h
 simp only [Bool.and_eq_true] at h
 unfold keyOk
 simp [h.1.1.1.1, h.1.1.1.2, h.1.1.2]
theorem before_key {a b : Cel} (ha : cellOk a = true) (hb : cellOk b = true) : celBefore a b = ahead (celKey a) (celKey b) := by
 unfold celKey
 rw [keyOf_yes (cel_keyOk ha), keyOf_yes (cel_keyOk hb), ← ahead_less, less_key (cel_keyOk ha) (cel_keyOk hb)]
 unfold celBefore
 simp only [ahead_less]
def okAt (xs : List Cel) (i : Nat) : Bool := match xs[i]? with
 | none => true
 | some x => cellOk x && (match i with | 0 => true | j + 1 => match xs[j]? with | none => true | some y => celBefore y x)
def cellsOk (xs : List Cel) : Bool := (List.range xs.length).all (okAt xs)
theorem cellsOk_yes {xs : List Cel} (h : ∀ j, j < xs.length → okAt xs j = true) : cellsOk xs = true := List.all_eq_true.2 (fun j hj => h j (List.mem_range.1 hj))
theorem cellsOk_no {xs : List Cel} {i : Nat} (hi : i < xs.length) (h : okAt xs i = false) : cellsOk xs = false := List.all_eq_false.2 ⟨i, List.mem_range.2 hi, by simp [h]⟩
theorem cellsOk_at {xs : List Cel} (h : cellsOk xs = true) {j : Nat} (hj : j < xs.length) : okAt xs j = true := List.all_eq_true.1 h j (List.mem_range.2 hj)
theorem okAt_zero {xs : List Cel} {x : Cel} (h : xs[0]? = some x) : okAt xs 0 = cellOk x := by unfold okAt; rw [h]; simp
theorem okAt_succ {xs : List Cel} {x y : Cel} {j : Nat} (h : xs[j + 1]? = some x) (h' : xs[j]? = some y) : okAt xs (j + 1) = (cellOk x && celBefore y x) := by
 have : okAt xs (j + 1) = (match xs[j + 1]? with
   | none => true
   | some x => cellOk x && (match xs[j]? with | none => true | some y => celBefore y x)) := rfl
 rw [this, h, h']
theorem cells_ok {xs : List Cel} (h : cellsOk xs = true) {j : Nat} {x : Cel} (hj : xs[j]? = some x) : cellOk x = true := by
 have h1 := cellsOk_at h (List.getElem?_eq_some_iff.1 hj).1
 unfold okAt at h1
 rw [hj] at h1
 simp only [Bool.and_eq_true] at h1
 exact h1.1
theorem cells_rise {xs : List Cel} (h : cellsOk xs = true) {i : Nat} {x : Cel} (hi : xs[i]? = some x) (d : Nat) : ∀ {y : Cel}, xs[i + d + 1]? = some y → Op.bytesLess (celKey x) (celKey y) = true := by
 induction d with
 | zero =>
   intro y hy
   have h1 := cellsOk_at h (List.getElem?_eq_some_iff.1 hy).1
   rw [Nat.add_zero] at hy h1
   rw [okAt_succ hy hi] at h1
   simp only [Bool.and_eq_true] at h1
   rw [ahead_less, ← before_key (cells_ok h hi) h1.1]
   exact h1.2
 | succ d ih =>
   intro y hy
   have hlt := (List.getElem?_eq_some_iff.1 hy).1
   obtain ⟨z, hz⟩ : ∃ z, xs[i + d + 1]? = some z := ⟨_, List.getElem?_eq_getElem (by omega)⟩
   have h1 := cellsOk_at h hlt
   rw [show i + (d + 1) + 1 = (i + d + 1) + 1 by omega] at hy h1
   rw [okAt_succ hy hz] at h1
   simp only [Bool.and_eq_true] at h1
   refine less_trans _ _ _ (ih hz) ?_
   rw [ahead_less, ← before_key (cells_ok h hz) h1.1]
   exact h1.2

theorem sizeCel : (Try.prog.info? 36).map (·.size) = some 5 := by kernel_rfl
theorem alloc_at (w : World) (o : Obj) : (w.alloc o).heap[w.heap.size]? = some o := by
 show (w.heap.push o)[w.heap.size]? = some o
 simp
theorem alloc_old (w : World) (o : Obj) {i : Nat} (h : i < w.heap.size) : (w.alloc o).heap[i]? = w.heap[i]? := by
 show (w.heap.push o)[i]? = w.heap[i]?
 rw [Array.getElem?_push, if_neg (Nat.ne_of_lt h)]
theorem alloc_at2 (w : World) (o o' : Obj) : ((w.alloc o).alloc o').heap[w.heap.size + 1]? = some o' := by
 have := alloc_at (w.alloc o) o'
 rwa [World.size_alloc] at this
theorem alloc_at3 (w : World) (o o' o'' : Obj) : (((w.alloc o).alloc o').alloc o'').heap[w.heap.size + 1]? = some o' := by
 rw [alloc_old _ _ (by simp)]
 exact alloc_at2 w o o'
theorem set5 {w : World} {r T : Nat} {fz : Nat × Nat} {a b c d e : Value} (h : w.heap[r]? = some (.cells #[a, b, c, d, e] T fz)) (v0 v1 v2 v3 v4 : Value) :
   (((((w.setCell ⟨r, 0, none⟩ v0).setCell ⟨r, 1, none⟩ v1).setCell ⟨r, 2, none⟩ v2).setCell ⟨r, 3, none⟩ v3).setCell ⟨r, 4, none⟩ v4).heap[r]? = some (.cells #[v0, v1, v2, v3, v4] T fz) := by
 rw [set_block _ (set_block _ (set_block _ (set_block _ (set_block (w := w) _ h))))]
 rfl
theorem set5_below {B : Nat} {w0 w : World} (h : Below B w0 w) {r : Nat} (hr : B ≤ r) (v0 v1 v2 v3 v4 : Value) :
   Below B w0 (((((w.setCell ⟨r, 0, none⟩ v0).setCell ⟨r, 1, none⟩ v1).setCell ⟨r, 2, none⟩ v2).setCell ⟨r, 3, none⟩ v3).setCell ⟨r, 4, none⟩ v4) :=
 ((((h.setCell hr _).setCell hr _).setCell hr _).setCell hr _).setCell hr _
theorem one_below (w : World) (o : Obj) : Below w.heap.size w (w.alloc o) := (Below.refl _ w).alloc (Nat.le_refl _) o
theorem two_below0 (w : World) (o o' : Obj) : Below w.heap.size w ((w.alloc o).alloc o') := ((Below.refl _ w).alloc (Nat.le_refl _) o).alloc (by simp) o'
theorem two_below (w : World) (o o' : Obj) (n : Nat) : Below w.heap.size w (((w.alloc o).alloc o').drewN n) := (two_below0 w o o').trans (below_draws n)
def Two5 (A B : Nat) (a0 a1 a2 a3 a4 b0 b1 b2 b3 b4 : Value) (w : World) : Prop :=
 w.cell? ⟨A, 0, none⟩ = some a0 ∧ w.cell? ⟨A, 1, none⟩ = some a1 ∧ w.cell? ⟨A, 2, none⟩ = some a2 ∧ w.cell? ⟨A, 3, none⟩ = some a3 ∧ w.cell? ⟨A, 4, none⟩ = some a4 ∧
 w.cell? ⟨B, 0, none⟩ = some b0 ∧ w.cell? ⟨B, 1, none⟩ = some b1 ∧ w.cell? ⟨B, 2, none⟩ = some b2 ∧ w.cell? ⟨B, 3, none⟩ = some b3 ∧ w.cell? ⟨B, 4, none⟩ = some b4
theorem Two5.lt {A B : Nat} {a0 a1 a2 a3 a4 b0 b1 b2 b3 b4 : Value} {w : World} (h : Two5 A B a0 a1 a2 a3 a4 b0 b1 b2 b3 b4 w) : A < w.heap.size ∧ B < w.heap.size := ⟨cell_lt h.1, cell_lt h.2.2.2.2.2.1⟩
theorem Two5.below {A B : Nat} {a0 a1 a2 a3 a4 b0 b1 b2 b3 b4 : Value} {w w' : World} (h : Two5 A B a0 a1 a2 a3 a4 b0 b1 b2 b3 b4 w) (hb : Below w.heap.size w w') : Two5 A B a0 a1 a2 a3 a4 b0 b1 b2 b3 b4 w' := by
 obtain ⟨hA, hB⟩ := h.lt
 obtain ⟨h0, h1, h2, h3, h4, k0, k1, k2, k3, k4⟩ := h
 exact ⟨(hb.cell (p := ⟨A, 0, none⟩) hA).trans h0, (hb.cell (p := ⟨A, 1, none⟩) hA).trans h1, (hb.cell (p := ⟨A, 2, none⟩) hA).trans h2, (hb.cell (p := ⟨A, 3, none⟩) hA).trans h3, (hb.cell (p := ⟨A, 4, none⟩) hA).trans h4,
   (hb.cell (p := ⟨B, 0, none⟩) hB).trans k0, (hb.cell (p := ⟨B, 1, none⟩) hB).trans k1, (hb.cell (p := ⟨B, 2, none⟩) hB).trans k2, (hb.cell (p := ⟨B, 3, none⟩) hB).trans k3, (hb.cell (p := ⟨B, 4, none⟩) hB).trans k4⟩
theorem two5_new (w : World) (a0 a1 a2 a3 a4 b0 b1 b2 b3 b4 : Value) (T T' : Nat) : Two5 w.heap.size (w.heap.size + 1) a0 a1 a2 a3 a4 b0 b1 b2 b3 b4 ((w.alloc (.cells #[a0, a1, a2, a3, a4] T)).alloc (.cells #[b0, b1, b2, b3, b4] T')) := by
 have hA := (alloc_old (w.alloc (.cells #[a0, a1, a2, a3, a4] T)) (.cells #[b0, b1, b2, b3, b4] T') (i := w.heap.size) (by simp)).trans (alloc_at w _)
 have hB := alloc_at2 w (.cells #[a0, a1, a2, a3, a4] T) (.cells #[b0, b1, b2, b3, b4] T')
 refine ⟨?_, ?_, ?_, ?_, ?_, ?_, ?_, ?_, ?_, ?_⟩
 all_goals first | (simp only [World.cell?, hA]; rfl) | (simp only [World.cell?, hB]; rfl)
def Cel5 (w : World) (g k : Nat) (y : Cel) : Prop :=
 w.cell? ⟨g, k * 5, none⟩ = some (.string y.row) ∧ w.cell? ⟨g, k * 5 + 1, none⟩ = some (.string y.col) ∧ w.cell? ⟨g, k * 5 + 2, none⟩ = some (.int .i64 y.time) ∧ w.cell? ⟨g, k * 5 + 3, none⟩ = some (.bool y.gone) ∧ w.cell? ⟨g, k * 5 + 4, none⟩ = some (.string y.value)
theorem Cel5.below {w w' : World} {g k : Nat} {y : Cel} (h : Cel5 w g k y) (hb : Below w.heap.size w w') : Cel5 w' g k y := by
 have hA := cell_lt h.1
 obtain ⟨h0, h1, h2, h3, h4⟩ := h
 exact ⟨(hb.cell (p := ⟨g, k * 5, none⟩) hA).trans h0, (hb.cell (p := ⟨g, k * 5 + 1, none⟩) hA).trans h1, (hb.cell (p := ⟨g, k * 5 + 2, none⟩) hA).trans h2, (hb.cell (p := ⟨g, k * 5 + 3, none⟩) hA).trans h3, (hb.cell (p := ⟨g, k * 5 + 4, none⟩) hA).trans h4⟩
theorem Cel5.lt {w : World} {g k : Nat} {y : Cel} (h : Cel5 w g k y) : g < w.heap.size := cell_lt h.1
def CelRow (w : World) (a : Option Addr) (n c : Nat) (xs : List Cel) : Prop := xs.length = n ∧ n ≤ c ∧ ∀ (k : Nat) (y : Cel), xs[k]? = some y → ∃ g, a = some ⟨g, 0, none⟩ ∧ Cel5 w g k y
theorem CelRow.below {w w' : World} {a : Option Addr} {n c : Nat} {xs : List Cel} (h : CelRow w a n c xs) (hb : Below w.heap.size w w') : CelRow w' a n c xs :=
 ⟨h.1, h.2.1, fun k y hk => by obtain ⟨g, e, hc⟩ := h.2.2 k y hk; exact ⟨g, e, hc.below hb⟩⟩
theorem CelRow.drewN {w : World} {a : Option Addr} {n c : Nat} {xs : List Cel} (h : CelRow w a n c xs) (m : Nat) : CelRow (w.drewN m) a n c xs := h
def Fit (xs : List Cel) : Prop := ∀ y ∈ xs, y.row.size ≤ maxLen ∧ y.col.size ≤ maxLen ∧ y.value.size ≤ maxLen
theorem Fit.at {xs : List Cel} (h : Fit xs) {k : Nat} {y : Cel} (hk : xs[k]? = some y) : y.row.size ≤ maxLen ∧ y.col.size ≤ maxLen ∧ y.value.size ≤ maxLen := h y (List.mem_of_getElem? hk)

def celCells (y : Cel) : List Value := [.string y.row, .string y.col, .int .i64 y.time, .bool y.gone, .string y.value]
def zeroC : Cel := ⟨⟨#[]⟩, ⟨#[]⟩, 0, false, ⟨#[]⟩⟩
theorem infoCel : (Try.prog.info? 36).map (fun i => (i.zero, i.size, i.bytes)) = some (some (.agg #[.string ⟨#[]⟩, .string ⟨#[]⟩, .int .i64 0, .bool false, .string ⟨#[]⟩]), 5, 64) := by kernel_rfl
theorem celCells_len (xs : List Cel) : (xs.flatMap celCells).length = xs.length * 5 := by
 induction xs with
 | nil => rfl
 | cons t xs ih => rw [List.flatMap_cons, List.length_append, ih, List.length_cons]; simp [celCells]; omega
theorem cel_cell (xs : List Cel) : ∀ (k j : Nat) (y : Cel), xs[k]? = some y → j < 5 → (xs.flatMap celCells)[k * 5 + j]? = (celCells y)[j]? := by
 induction xs with
 | nil => intro k j y h; simp at h
 | cons a l ih =>
   intro k j y h hj
   rw [List.flatMap_cons]
   cases k with
   | zero =>
     simp at h
     subst h
     rw [Nat.zero_mul, Nat.zero_add, List.getElem?_append_left (by simp [celCells]; omega)]
   | succ k =>
     have ha : (celCells a).length = 5 := rfl
     rw [List.getElem?_append_right (by rw [ha]; omega), ha, show (k + 1) * 5 + j - 5 = k * 5 + j by omega]
     exact ih k j y (by simpa using h) hj
theorem cel_set (y : Cel) : ∀ (xs : List Cel) (i : Nat), i < xs.length → (((((xs.flatMap celCells).set (i * 5) (.string y.row)).set (i * 5 + 1) (.string y.col)).set (i * 5 + 2) (.int .i64 y.time)).set (i * 5 + 3) (.bool y.gone)).set (i * 5 + 4) (.string y.value) = (xs.set i y).flatMap celCells
 | [], i, h => by simp at h
 | a :: l, 0, _ => by simp [celCells]
 | a :: l, i + 1, h => by
   have ih := cel_set y l i (by simpa using h)
   have e : ∀ j, (i + 1) * 5 + j = (celCells a).length + (i * 5 + j) := fun j => by simp [celCells]; omega
   have e0 : (i + 1) * 5 = (celCells a).length + (i * 5) := by simp [celCells]; omega
   rw [List.flatMap_cons, List.set_cons_succ, List.flatMap_cons, e 1, e 2, e 3, e 4, e0]
   simp only [List.set_append_right _ _ (Nat.le_add_right _ _), Nat.add_sub_cancel_left]
   rw [ih]
def CelBlock (w : World) (g : Nat) (xs : List Cel) : Prop := w.heap[g]? = some (.cells (xs.flatMap celCells).toArray 36 (0, 0))
theorem CelBlock.cell {w : World} {g : Nat} {xs : List Cel} (h : CelBlock w g xs) {k : Nat} {y : Cel} (hk : xs[k]? = some y) : Cel5 w g k y := by
 have hc : ∀ j, j < 5 → w.cell? ⟨g, k * 5 + j, none⟩ = (celCells y)[j]? := fun j hj => by
   have h1 := cel_cell xs k j y hk hj
   unfold CelBlock at h
   simp only [World.cell?, h]
   simpa using h1
 exact ⟨hc 0 (by omega), hc 1 (by omega), hc 2 (by omega), hc 3 (by omega), hc 4 (by omega)⟩
theorem CelBlock.frozen {w : World} {g : Nat} {xs : List Cel} (h : CelBlock w g xs) (j : Nat) : w.frozen? ⟨g, j, none⟩ = false := by
 unfold CelBlock at h
 simp [World.frozen?, h]
theorem CelBlock.row {w : World} {g : Nat} {xs : List Cel} (h : CelBlock w g xs) {n : Nat} (hn : xs.length = n) : CelRow w (some ⟨g, 0, none⟩) n n xs := ⟨hn, Nat.le_refl _, fun k y hk => ⟨g, rfl, h.cell hk⟩⟩
theorem CelBlock.below {w w' : World} {g : Nat} {xs : List Cel} (h : CelBlock w g xs) (hb : Below w.heap.size w w') : CelBlock w' g xs := (hb.block g (Array.getElem?_eq_some_iff.1 h).1).trans h
theorem CelBlock.set {w : World} {g : Nat} {xs : List Cel} (h : CelBlock w g xs) (y : Cel) {i : Nat} (hi : i < xs.length) :
   CelBlock (((((w.setCell ⟨g, i * 5, none⟩ (.string y.row)).setCell ⟨g, i * 5 + 1, none⟩ (.string y.col)).setCell ⟨g, i * 5 + 2, none⟩ (.int .i64 y.time)).setCell ⟨g, i * 5 + 3, none⟩ (.bool y.gone)).setCell ⟨g, i * 5 + 4, none⟩ (.string y.value)) g (xs.set i y) := by
 unfold CelBlock at h ⊢
 rw [set_block _ (set_block _ (set_block _ (set_block _ (set_block (w := w) _ h)))), ← cel_set y xs i hi]
 simp
theorem set5i_below {B : Nat} {w0 w : World} (h : Below B w0 w) {r : Nat} (hr : B ≤ r) (k : Nat) (v0 v1 v2 v3 v4 : Value) :
   Below B w0 (((((w.setCell ⟨r, k, none⟩ v0).setCell ⟨r, k + 1, none⟩ v1).setCell ⟨r, k + 2, none⟩ v2).setCell ⟨r, k + 3, none⟩ v3).setCell ⟨r, k + 4, none⟩ v4) :=
 ((((h.setCell hr _).setCell hr _).setCell hr _).setCell hr _).setCell hr _
theorem cels_made (n : Nat) (w : World) (hn : n ≤ 1048576) : ∃ W, (Instr.makeSlice 24 (.int .i64 n) (.int .i64 n)).run Try.prog w = .ok (.slice (some ⟨w.heap.size, 0, none⟩) n n) W ∧ CelBlock W w.heap.size (List.replicate n zeroC) ∧ Below w.heap.size w W := by
 obtain ⟨ti, hti, hz0, hz1, hz2⟩ := info_parts infoCel
 have h := run_makeSlice (P := Try.prog) w 24 36 ti (.agg #[.string ⟨#[]⟩, .string ⟨#[]⟩, .int .i64 0, .bool false, .string ⟨#[]⟩]) Try.underlying24 hti hz0 .i64 .i64 n n (by omega) (by omega) (by rw [hz1]; simp; omega) (by rw [hz2]; omega) (by omega)
 rw [hz1, Int.toNat_natCast] at h
 have e : (Value.agg #[.string ⟨#[]⟩, .string ⟨#[]⟩, .int .i64 0, .bool false, .string ⟨#[]⟩]).cells = (celCells zeroC).toArray := rfl
 have e2 : madeCells (celCells zeroC).toArray (n * 5) = ((List.replicate n zeroC).flatMap celCells).toArray := by
   apply Array.ext_getElem?
   intro j
   by_cases hj : j < n * 5
   · have h1 := cel_cell (List.replicate n zeroC) (j / 5) (j % 5) zeroC (by rw [List.getElem?_replicate, if_pos (by omega)]) (by omega)
     rw [show j / 5 * 5 + j % 5 = j by omega] at h1
     have h5 : j % 5 < 5 := by omega
     simp only [List.getElem?_toArray, h1]
     simp [madeCells, hj, celCells, h5]
   · rw [Array.getElem?_eq_none (by simp [madeCells]; omega), Array.getElem?_eq_none (by simp only [List.size_toArray, celCells_len, List.length_replicate]; omega)]
 rw [e, e2] at h
 exact ⟨_, h, alloc_at w _, one_below w _⟩
def Cel5O (w : World) (g m : Nat) (y : Cel) : Prop :=
 w.cell? ⟨g, m, none⟩ = some (.string y.row) ∧ w.cell? ⟨g, m + 1, none⟩ = some (.string y.col) ∧ w.cell? ⟨g, m + 2, none⟩ = some (.int .i64 y.time) ∧ w.cell? ⟨g, m + 3, none⟩ = some (.bool y.gone) ∧ w.cell? ⟨g, m + 4, none⟩ = some (.string y.value)
theorem Cel5O.below {w w' : World} {g m : Nat} {y : Cel} (h : Cel5O w g m y) (hb : Below w.heap.size w w') : Cel5O w' g m y := by
 have hA := cell_lt h.1
 obtain ⟨h0, h1, h2, h3, h4⟩ := h
 exact ⟨(hb.cell (p := ⟨g, m, none⟩) hA).trans h0, (hb.cell (p := ⟨g, m + 1, none⟩) hA).trans h1, (hb.cell (p := ⟨g, m + 2, none⟩) hA).trans h2, (hb.cell (p := ⟨g, m + 3, none⟩) hA).trans h3, (hb.cell (p := ⟨g, m + 4, none⟩) hA).trans h4⟩
theorem Cel5O.lt {w : World} {g m : Nat} {y : Cel} (h : Cel5O w g m y) : g < w.heap.size := cell_lt h.1
def CelRowO (w : World) (a : Option Addr) (n c : Nat) (xs : List Cel) : Prop := xs.length = n ∧ n ≤ c ∧ ∀ (k : Nat) (y : Cel), xs[k]? = some y → ∃ g off, a = some ⟨g, off, none⟩ ∧ Cel5O w g (off + k * 5) y
theorem CelRowO.below {w w' : World} {a : Option Addr} {n c : Nat} {xs : List Cel} (h : CelRowO w a n c xs) (hb : Below w.heap.size w w') : CelRowO w' a n c xs :=
 ⟨h.1, h.2.1, fun k y hk => by obtain ⟨g, off, e, hc⟩ := h.2.2 k y hk; exact ⟨g, off, e, hc.below hb⟩⟩
theorem CelRow.o {w : World} {a : Option Addr} {n c : Nat} {xs : List Cel} (h : CelRow w a n c xs) : CelRowO w a n c xs :=
 ⟨h.1, h.2.1, fun k y hk => by
   obtain ⟨g, e, hc⟩ := h.2.2 k y hk
   refine ⟨g, 0, e, ?_⟩
   rw [Nat.zero_add]
   exact hc⟩
theorem infoStr : (Try.prog.info? 9).map (fun i => (i.zero, i.size, i.bytes)) = some (some (.string ⟨#[]⟩), 1, 16) := by kernel_rfl

structure RowAt (w0 w : World) (v : Value) (xs : List ByteArray) : Prop where
 row : w.ownsRow w0.heap.size 9 1 v xs.length (xs.map Value.string)
 below : Below w0.heap.size w0 w

theorem RowAt.push {w0 w w' : World} {v v' : Value} {xs : List ByteArray} (t : RowAt w0 w v xs) (o : Obj) (x : ByteArray)
   (hown : w'.ownsRow w0.heap.size 9 1 v' (xs.length + 1) (xs.map Value.string ++ [.string x])) (hg : (w.alloc o).grownBy w' v.ownBlock) :
   ∃ g c, v' = .slice (some ⟨g, 0, none⟩) (xs.length + 1) c ∧ RowAt w0 w' v' (xs ++ [x]) := by
 obtain ⟨g, c, rfl⟩ := ownsRow_succ hown
 refine ⟨g, c, rfl, by simpa using hown, ?_⟩
 exact (t.below.alloc t.below.size o).grown hg (by have := t.below.size; simp; omega) (fun k hk => (t.row.lt k hk).1)

def Bytes (w : World) (p : Nat) (a : Option Addr) (len : Nat) (zs : List Int) : Prop :=
 len ≤ maxLen ∧ ∀ k, k < len → ∃ b off, a = some ⟨b, off, none⟩ ∧ b < w.heap.size ∧ b ≠ p ∧ w.cell? ⟨b, off + k, none⟩ = some (.int .u8 (zs.getD k 0)) ∧ 0 ≤ zs.getD k 0 ∧ zs.getD k 0 ≤ 255

structure CurAt (w : World) (T p : Nat) (a : Option Addr) (len cap : Nat) (zs : List Int) (i : Nat) (h : Int) : Prop where
 block : w.heap[p]? = some (.cells #[.slice a len cap, .int .i64 i, .int .i64 h] T (0, 0))
 bytes : Bytes w p a len zs
 le : i ≤ len

theorem Bytes.kept {w w' : World} {p len : Nat} {a : Option Addr} {zs : List Int} (h : Bytes w p a len zs) (hg : w.grownBy w' (some p)) : Bytes w' p a len zs := by
 refine ⟨h.1, fun k hk => ?_⟩
 obtain ⟨b, off, ha, hb, hne, hc, hr⟩ := h.2 k hk
 exact ⟨b, off, ha, Nat.lt_of_lt_of_le hb hg.size, hne, (World.cell?_of_block (w := w) (hg.block b hb (by simpa using hne))).trans hc, hr⟩

theorem CurAt.lt {w : World} {T p : Nat} {a : Option Addr} {len cap : Nat} {zs : List Int} {i : Nat} {h : Int} (c : CurAt w T p a len cap zs i h) : p < w.heap.size := (Array.getElem?_eq_some_iff.1 c.block).1

theorem CurAt.cells {w : World} {T p : Nat} {a : Option Addr} {len cap : Nat} {zs : List Int} {i : Nat} {h : Int} (c : CurAt w T p a len cap zs i h) :
   w.cell? ⟨p, 0, none⟩ = some (.slice a len cap) ∧ w.cell? ⟨p, 1, none⟩ = some (.int .i64 i) ∧ w.cell? ⟨p, 2, none⟩ = some (.int .i64 h) ∧ w.frozen? ⟨p, 1, none⟩ = false ∧ w.frozen? ⟨p, 2, none⟩ = false := by
 have hb := c.block
 refine ⟨?_, ?_, ?_, ?_, ?_⟩ <;> simp [World.cell?, World.frozen?, hb]



theorem CurAt.drewN {w : World} {T p : Nat} {a : Option Addr} {len cap : Nat} {zs : List Int} {i : Nat} {h : Int} (c : CurAt w T p a len cap zs i h) (n : Nat) : CurAt (w.drewN n) T p a len cap zs i h :=
 ⟨c.block, c.bytes.kept (grown_drewN _ _ _), c.le⟩
theorem CurAt.kept {w w' : World} {T p : Nat} {a : Option Addr} {len cap : Nat} {zs : List Int} {i : Nat} {h : Int} {row : Option Nat} (c : CurAt w T p a len cap zs i h) (hg : w.grownBy w' row) (hp : some p ≠ row) (ha : ∀ x, a = some x → some x.block ≠ row ∨ len = 0) : CurAt w' T p a len cap zs i h := by
 refine ⟨(hg.block p c.lt hp).trans c.block, ⟨c.bytes.1, fun k hk => ?_⟩, c.le⟩
 obtain ⟨b, off, hab, hb, hne, hc, hr⟩ := c.bytes.2 k hk
 have hrow : some b ≠ row := by
   rcases ha _ hab with h | h
   · exact h
   · omega
 exact ⟨b, off, hab, Nat.lt_of_lt_of_le hb hg.size, hne, (World.cell?_of_block (w := w) (hg.block b hb hrow)).trans hc, hr⟩




theorem bytes_of_row {w : World} {a : Option Addr} {len cap : Nat} {zs : List Int} (h : IsRow .u8 w a len cap zs) (p : Nat) (hp : w.heap.size ≤ p) : Bytes w p a len zs := by
 rcases h with ⟨rfl, rfl, rfl, rfl⟩ | ⟨x, rfl, hl, hm, hz, hc, hw⟩
 · exact ⟨by unfold maxLen; omega, fun k hk => by omega⟩
 · refine ⟨by omega, fun k hk => ?_⟩
   obtain ⟨b, off, spot⟩ := x
   have h0 := hc 0 (by omega)
   have hs : spot = none := by simpa [Addr.add] using World.cell?_spot h0
   subst hs
   have hk' := hc k (by omega)
   have e : (⟨b, off, none⟩ : Addr).add k = ⟨b, off + k, none⟩ := by
     unfold Addr.add; split
     · subst_vars; rfl
     · rfl
   rw [e] at hk'
   have hb := cell_lt hk'
   have hmem : zs.getD k 0 ∈ zs := by rw [List.getD_eq_getElem?_getD, List.getElem?_eq_getElem (by omega)]; exact List.getElem_mem _
   exact ⟨b, off, rfl, hb, by simp only at hb; omega, hk', wf_u8 (hw _ hmem)⟩

theorem grown_of_below {w w' : World} (h : Below w.heap.size w w') : w.grownBy w' none := ⟨h.os, h.tape, h.output, h.size, fun j hj _ => h.block j hj⟩
theorem CurAt.below {w w' : World} {T p : Nat} {a : Option Addr} {len cap : Nat} {zs : List Int} {i : Nat} {h : Int} (c : CurAt w T p a len cap zs i h) (hb : Below w.heap.size w w') : CurAt w' T p a len cap zs i h :=
 c.kept (grown_of_below hb) (by simp) (fun _ _ => Or.inl (by simp))
theorem CurAt.new {w : World} {T p : Nat} {a : Option Addr} {len cap : Nat} {zs : List Int} {i : Nat} {h : Int} (c : CurAt w T p a len cap zs i h) (o : Obj) : CurAt (w.alloc o) T p a len cap zs i h := c.kept (World.grownBy_alloc _ _ none) (by simp) (fun _ _ => Or.inl (by simp))
theorem below_bytes {w w1 : World} {a : Option Addr} {len : Nat} {zs : List Int} (hr : Bytes w w.heap.size a len zs) (hb : Below w.heap.size w w1) : Bytes w1 w1.heap.size a len zs := by
 refine ⟨hr.1, fun k hk => ?_⟩
 obtain ⟨b, off, ha, hlt, hne, hc, hr2⟩ := hr.2 k hk
 have := hb.size
 exact ⟨b, off, ha, by omega, by omega, (hb.cell (p := ⟨b, off + k, none⟩) hlt).trans hc, hr2⟩
def StrAt (w : World) (a : Option Addr) (n c : Nat) (xs : List ByteArray) : Prop := xs.length = n ∧ n ≤ c ∧ ∀ (k : Nat) (x : ByteArray), xs[k]? = some x → ∃ g, a = some ⟨g, 0, none⟩ ∧ w.cell? ⟨g, k, none⟩ = some (.string x)
theorem StrAt.below {w w' : World} {a : Option Addr} {n c : Nat} {xs : List ByteArray} (h : StrAt w a n c xs) (hb : Below w.heap.size w w') : StrAt w' a n c xs :=
 ⟨h.1, h.2.1, fun k x hk => by obtain ⟨g, e, hc⟩ := h.2.2 k x hk; exact ⟨g, e, (hb.cell (p := ⟨g, k, none⟩) (cell_lt hc)).trans hc⟩⟩
theorem str_row {B : Nat} {w : World} {a : Option Addr} {n c : Nat} {xs : List ByteArray} (h : w.ownsRow B 9 1 (.slice a n c) xs.length (xs.map Value.string)) : StrAt w a n c xs := by
 rcases h.2 with ⟨h0, hn⟩ | ⟨g, cap, cur, h1, _, hc, hn, _, hs, ht⟩
 · cases h0
   refine ⟨hn, Nat.le_refl _, fun k x hk => ?_⟩
   have := (List.getElem?_eq_some_iff.1 hk).1
   omega
 · cases h1
   refine ⟨rfl, hn, fun k x hk => ⟨g, rfl, ?_⟩⟩
   have hk' := (List.getElem?_eq_some_iff.1 hk).1
   have h2 : w.cell? ⟨g, k, none⟩ = cur[k]? := by simp [World.cell?, hc]
   have h3 : (xs.map Value.string)[k]? = some (.string x) := by rw [List.getElem?_map, hk]; rfl
   rw [← ht, List.getElem?_take, if_pos (by omega)] at h3
   rw [h2, ← Array.getElem?_toList]
   exact h3
theorem str_form {B : Nat} {w : World} {v : Value} {xs : List ByteArray} (h : w.ownsRow B 9 1 v xs.length (xs.map Value.string)) : ∃ ad cap, v = .slice ad xs.length cap := by
 rcases h.2 with ⟨h0, hn⟩ | ⟨g, cap, cur, h1, _⟩
 · exact ⟨none, 0, by rw [h0, hn]⟩
 · exact ⟨_, _, h1⟩
def FitS (xs : List ByteArray) : Prop := ∀ x ∈ xs, x.size ≤ maxLen
def lists (xs : List ByteArray) : List (List UInt8) := xs.map (fun x => x.data.toList)
theorem lists_len (xs : List ByteArray) : (lists xs).length = xs.length := by unfold lists; simp
theorem lists_at {xs : List ByteArray} {k : Nat} {x : ByteArray} (h : xs[k]? = some x) : (lists xs)[k]? = some x.data.toList := by unfold lists; rw [List.getElem?_map, h]; rfl
theorem take_next {α : Type} {l : List α} {k : Nat} {x : α} (h : l[k]? = some x) : l.take (k + 1) = l.take k ++ [x] := by
 obtain ⟨hi, rfl⟩ := List.getElem?_eq_some_iff.1 h
 rw [List.take_succ_eq_append_getElem hi]
def OwnS (B : Nat) (w : World) (v : Value) (xs : List ByteArray) : Prop := w.ownsRow B 9 1 v xs.length (xs.map Value.string)
section
variable {B : Nat} {w w' : World} {v : Value} {xs : List ByteArray}
theorem OwnS.form (h : OwnS B w v xs) : ∃ ad cap, v = .slice ad xs.length cap := str_form h
theorem OwnS.row {a : Option Addr} {n c : Nat} (h : OwnS B w (.slice a n c) xs) : StrAt w a n c xs := by
 obtain ⟨ad, cap, e⟩ := h.form
 cases e
 exact str_row h
theorem OwnS.below (h : OwnS B w v xs) (hb : Below w.heap.size w w') : OwnS B w' v xs := by
 refine World.ownsRow.kept h (grown_of_below hb) ?_
 cases hv : v.ownBlock <;> simp
theorem OwnS.new (h : OwnS B w v xs) (o : Obj) : OwnS B (w.alloc o) v xs := World.ownsRow.alloc h o
theorem OwnS.lt (h : OwnS B w v xs) {k : Nat} (hk : v.ownBlock = some k) : B ≤ k ∧ k < w.heap.size := World.ownsRow.lt h k hk
theorem owns_made (w : World) : OwnS w.heap.size (w.alloc (.cells #[] 9)) (.slice (some ⟨w.heap.size, 0, none⟩) 0 0) [] := World.ownsRow_made w #[] 0 (Nat.le_refl _) (by unfold maxLen; omega) (by simp)
theorem OwnS.grown {p : Nat} (h : OwnS B w v xs) (hg : w.grownBy w' (some p)) (hp : p < B) : OwnS B w' v xs := by
 refine World.ownsRow.kept h hg ?_
 cases hv : v.ownBlock with
 | none => exact .inl rfl
 | some k =>
   refine .inr (fun e => ?_)
   have := (h.lt hv).1
   cases e
   omega
end
theorem op_pushW {B : Nat} {w : World} {v : Value} {xs : List ByteArray} (ys : List ByteArray) {ad : Addr} {c : Nat} {o : Oper} {act : Act} {K : Act → World → Prop} {Q : Exit → Act → World → Prop} (s x : Operand)
   (hop : o.op = .call { callee := .builtin .append, args := #[s, x], argTypes := #[58, 58] })
   (hs : act.eval s = v) {m : Nat} (hx : act.eval x = .slice (some ad) m c) (hm : ys.length = m) (hb : ∀ j u, (ys.map Value.string)[j]? = some u → w.cell? (ad.add j) = some u) (h : OwnS B w v xs) (hB : B ≤ w.heap.size) (hl : xs.length + ys.length < 4194304)
   (hk : ∀ v' w', OwnS B w' v' (xs ++ ys) → w.grownBy w' v.ownBlock → K (act.put o.dst v') w') : o.wp Try.prog act w K Q := by
 subst hm
 obtain ⟨ti, hti, hz0, hz1, hz2⟩ := info_parts infoStr
 refine wp_append_own _ s x 58 hop B 9 ti (.string ⟨#[]⟩) 1 16 Try.underlying58 hti hz0 hz1 hz2 rfl (by decide) v xs.length (xs.map Value.string) hs h
   ad ys.length c (ys.map Value.string) hx (by simp) hb (by simp [Value.oneCell']) (by unfold maxLen; omega) (by omega) hB ?_
 intro v' w' hown hg _
 refine hk v' w' ?_ hg
 unfold OwnS
 rw [List.length_append, List.map_append]
 exact hown
theorem new_text (w : World) (x : ByteArray) : ∀ j u, ([x].map Value.string)[j]? = some u → (w.alloc (.cells #[.string x] 9)).cell? ((⟨w.heap.size, 0, none⟩ : Addr).add j) = some u := by
 intro j u hj
 have e : (⟨w.heap.size, 0, none⟩ : Addr).add j = ⟨w.heap.size, j, none⟩ := by
   unfold Addr.add; split
   · subst_vars; rfl
   · simp
 rw [e]
 have hb : (w.alloc (.cells #[.string x] 9)).heap[w.heap.size]? = some (.cells #[.string x] 9 (0, 0)) := by
   show (w.heap.push _)[w.heap.size]? = _
   simp
 simp only [World.cell?, hb]
 simpa using hj
structure Keyed (w W : World) (T p : Nat) (a : Option Addr) (len cap : Nat) (zs : List Int) (i : Nat) (h : Int) (v : Value) (xs : List ByteArray) : Prop where
 own : OwnS w.heap.size W v xs
 cur : CurAt W T p a len cap zs i h
 grow : w.grownBy W (some p)
section
variable {w W W' : World} {T p : Nat} {a : Option Addr} {len cap : Nat} {zs : List Int} {i i' : Nat} {h h' : Int} {v v' : Value} {xs xs' : List ByteArray}
theorem Keyed.draw (d : Keyed w W T p a len cap zs i h v xs) (hp : p < w.heap.size) (hg : W.grownBy W' (some p)) (cu : CurAt W' T p a len cap zs i' h') : Keyed w W' T p a len cap zs i' h' v xs := ⟨d.own.grown hg hp, cu, d.grow.trans hg⟩
theorem Keyed.new (d : Keyed w W T p a len cap zs i h v xs) (o : Obj) : Keyed w (W.alloc o) T p a len cap zs i h v xs := ⟨d.own.new o, d.cur.new o, d.grow.trans (World.grownBy_alloc _ _ _)⟩
theorem Keyed.below (d : Keyed w W T p a len cap zs i h v xs) (hb : Below W.heap.size W W') : Keyed w W' T p a len cap zs i h v xs :=
 ⟨d.own.below hb, d.cur.below hb, ⟨hb.os.trans d.grow.os, hb.tape.trans d.grow.tape, hb.output.trans d.grow.output, Nat.le_trans d.grow.size hb.size, fun k hk hne => (hb.block k (by have := d.grow.size; omega)).trans (d.grow.block k hk hne)⟩⟩
theorem Keyed.push (d : Keyed w W T p a len cap zs i h v xs) (hp : p < w.heap.size) (hr : ∀ x, a = some x → x.block < w.heap.size ∨ len = 0) (o : OwnS w.heap.size W' v' xs') (gr : W.grownBy W' v.ownBlock) : Keyed w W' T p a len cap zs i h v' xs' := by
 have hb : ∀ k, v.ownBlock = some k → w.heap.size ≤ k := fun k e => (d.own.lt e).1
 refine ⟨o, d.cur.kept gr (fun e => ?_) (fun x hx => ?_), ⟨gr.os.trans d.grow.os, gr.tape.trans d.grow.tape, gr.output.trans d.grow.output, Nat.le_trans d.grow.size gr.size, fun k hk hne => (gr.block k (Nat.lt_of_lt_of_le hk d.grow.size) (fun e => ?_)).trans (d.grow.block k hk hne)⟩⟩
 · have := hb p e.symm
   omega
 · rcases hr x hx with h1 | h1
   · refine .inl (fun e => ?_)
     have := hb _ e.symm
     omega
   · exact .inr h1
 · have := hb k e.symm
   omega
end
def shareOf (every i : Nat) (last k : List UInt8) : Nat := if i % every = 0 then 0 else shared last k
def sizeOf' (x : Cel) : Nat := 2 * x.value.size + (if x.gone then 1 else 0)
def entry (every i : Nat) (last : List UInt8) (x : Cel) : List UInt8 :=
 varB (shareOf every i last (celKey x)) ++ (varB ((celKey x).length - shareOf every i last (celKey x)) ++ (varB (sizeOf' x) ++ ((celKey x).drop (shareOf every i last (celKey x)) ++ x.value.data.toList)))
def entries (every : Nat) : Nat → List UInt8 → List Cel → List UInt8
 | _, _, [] => []
 | i, last, x :: r => entry every i last x ++ entries every (i + 1) (celKey x) r
def startsB (every : Nat) : Nat → Nat → List UInt8 → List Cel → List UInt8
 | _, _, _, [] => []
 | i, pos, last, x :: r => (if i % every = 0 then fixB pos 2 else []) ++ startsB every (i + 1) (pos + (entry every i last x).length) (celKey x) r
def blockOk (xs : List Cel) (every : Int) : Bool := decide (xs.length ≤ 50) && cellsOk xs && decide (1 ≤ every) && decide (every ≤ 16)
def block (xs : List Cel) (e : Nat) : List UInt8 := entries e 0 [] xs ++ (startsB e 0 0 [] xs ++ fixB ((startsB e 0 0 [] xs).length / 2) 2)
def putBlock (xs : List Cel) (every : Int) : List UInt8 := if blockOk xs every = true then block xs every.toNat else []

theorem share_le (every i : Nat) (last k : List UInt8) : shareOf every i last k ≤ k.length := by
 unfold shareOf
 split
 · omega
 · exact shared_le_right last k
theorem size_half (x : Cel) : sizeOf' x / 2 = x.value.size ∧ (sizeOf' x % 2 = 1 ↔ x.gone = true) := by
 unfold sizeOf'
 cases x.gone <;> simp <;> omega
theorem key_small {x : Cel} (h : cellOk x = true) : (celKey x).length ≤ 38 := by
 have h1 := cel_keyOk h
 obtain ⟨a1, a2, _⟩ := keyOk_parts h1
 have n1 := (name_parts a1).2.2
 have n2 := (name_parts a2).2.2
 unfold celKey
 rw [keyOf_yes h1, key_len]
 omega
theorem value_small {x : Cel} (h : cellOk x = true) : x.value.size ≤ 30 := by
 unfold cellOk at h
 simp only [Bool.and_eq_true, decide_eq_true_eq] at h
 exact h.1.2
def lastOf (last : List UInt8) (ys : List Cel) : List UInt8 := match ys.getLast? with
 | some y => celKey y
 | none => last
theorem lastOf_cons (last : List UInt8) (y : Cel) (ys : List Cel) : lastOf last (y :: ys) = lastOf (celKey y) ys := by
 unfold lastOf
 rw [List.getLast?_cons]
 cases ys.getLast? <;> rfl
theorem lastOf_snoc (last : List UInt8) (ys : List Cel) (x : Cel) : lastOf last (ys ++ [x]) = celKey x := by
 unfold lastOf
 simp
theorem entries_snoc (e : Nat) : ∀ (ys : List Cel) (i : Nat) (last : List UInt8) (x : Cel), entries e i last (ys ++ [x]) = entries e i last ys ++ entry e (i + ys.length) (lastOf last ys) x
 | [], i, last, x => by simp [entries, lastOf]
 | y :: ys, i, last, x => by
   rw [List.cons_append, entries, entries, entries_snoc e ys (i + 1) (celKey y) x, lastOf_cons, List.length_cons, show i + 1 + ys.length = i + (ys.length + 1) by omega, List.append_assoc]
theorem starts_snoc (e : Nat) : ∀ (ys : List Cel) (i pos : Nat) (last : List UInt8) (x : Cel), startsB e i pos last (ys ++ [x]) = startsB e i pos last ys ++ (if (i + ys.length) % e = 0 then fixB (pos + (entries e i last ys).length) 2 else [])
 | [], i, pos, last, x => by simp [entries, startsB]
 | y :: ys, i, pos, last, x => by
   rw [List.cons_append, startsB, startsB, starts_snoc e ys (i + 1) _ (celKey y) x, entries, List.length_cons, show i + 1 + ys.length = i + (ys.length + 1) by omega, List.append_assoc, List.length_append, Nat.add_assoc]
theorem take_cel {xs : List Cel} {i : Nat} {x : Cel} (h : xs[i]? = some x) : xs.take (i + 1) = xs.take i ++ [x] := by
 obtain ⟨hi, rfl⟩ := List.getElem?_eq_some_iff.1 h
 rw [List.take_succ_eq_append_getElem hi]
theorem take_len {xs : List Cel} {i : Nat} {x : Cel} (h : xs[i]? = some x) : (xs.take i).length = i := by
 have := (List.getElem?_eq_some_iff.1 h).1
 rw [List.length_take]
 omega
theorem entries_step (e : Nat) {xs : List Cel} {i : Nat} {x : Cel} (h : xs[i]? = some x) : entries e 0 [] (xs.take (i + 1)) = entries e 0 [] (xs.take i) ++ entry e i (lastOf [] (xs.take i)) x := by
 rw [take_cel h, entries_snoc, take_len h, Nat.zero_add]
theorem starts_step (e : Nat) {xs : List Cel} {i : Nat} {x : Cel} (h : xs[i]? = some x) : startsB e 0 0 [] (xs.take (i + 1)) = startsB e 0 0 [] (xs.take i) ++ (if i % e = 0 then fixB (entries e 0 [] (xs.take i)).length 2 else []) := by
 rw [take_cel h, starts_snoc, take_len h, Nat.zero_add, Nat.zero_add]
theorem last_step {xs : List Cel} {i : Nat} {x : Cel} (h : xs[i]? = some x) : lastOf [] (xs.take (i + 1)) = celKey x := by
 rw [take_cel h, lastOf_snoc]
theorem var_one {n : Nat} (h : n < 128) : (varB n).length = 1 := by rw [var_small h]; rfl
theorem size_small {x : Cel} (h : cellOk x = true) : sizeOf' x ≤ 61 := by
 have := size_half x
 have := value_small h
 omega
theorem entry_len {e i : Nat} {last : List UInt8} {x : Cel} (h : cellOk x = true) : (entry e i last x).length ≤ 71 := by
 have hk := key_small h
 have hv := value_small h
 have hz := size_small h
 have hs := share_le e i last (celKey x)
 unfold entry
 rw [List.length_append, List.length_append, List.length_append, List.length_append, List.length_drop, var_one (by omega), var_one (by omega), var_one (by omega)]
 simp
 omega
theorem putBlock_no {xs : List Cel} {every : Int} (h : blockOk xs every = false) : putBlock xs every = [] := by unfold putBlock; rw [if_neg (by simp [h])]
theorem putBlock_yes {xs : List Cel} {e : Nat} (h1 : xs.length ≤ 50) (h2 : cellsOk xs = true) (h3 : 1 ≤ e) (h4 : e ≤ 16) : putBlock xs (e : Int) = block xs e := by
 have h : blockOk xs (e : Int) = true := by
   unfold blockOk
   rw [h2]
   simp
   omega
 unfold putBlock
 rw [if_pos h, Int.toNat_natCast]
theorem block_no1 {xs : List Cel} {every : Int} (h : 50 < xs.length) : blockOk xs every = false := by
 unfold blockOk
 rw [show decide (xs.length ≤ 50) = false from decide_eq_false (by omega)]
 rfl
theorem block_no2 {xs : List Cel} {every : Int} (h : cellsOk xs = false) : blockOk xs every = false := by
 unfold blockOk
 rw [h]
 simp
theorem block_no3 {xs : List Cel} {every : Int} (h : every < 1 ∨ 16 < every) : blockOk xs every = false := by
 unfold blockOk
 rcases h with h | h
 · rw [show decide (1 ≤ every) = false from decide_eq_false (by omega)]; simp
 · rw [show decide (every ≤ 16) = false from decide_eq_false (by omega)]; simp
end Go.Proofs.Ytkomnnijnggbpaa
/- Plain mathematics of packed texts: runs, copies, tokens. -/
namespace Go.Proofs.Ytkomnnijnggbpaa
set_option linter.unusedVariables false

def runFrom (l : List UInt8) (i far : Nat) : Nat → Nat → Nat
 | n, 0 => n
 | n, f + 1 => if i + n < l.length ∧ l[i + n]? = l[i + n - far]? then runFrom l i far (n + 1) f else n
def runLen (l : List UInt8) (i far : Nat) : Nat := runFrom l i far 0 67
def bestTo (l : List UInt8) (i : Nat) : Nat → Nat × Nat
 | 0 => (0, 0)
 | f + 1 => if 4 ≤ runLen l i (f + 1) ∧ (bestTo l i f).1 < runLen l i (f + 1) then (runLen l i (f + 1), f + 1) else bestTo l i f
def copyAt (l : List UInt8) (i : Nat) : Nat × Nat := bestTo l i (min 255 i)

theorem runFrom_bd (l : List UInt8) (i far : Nat) : ∀ f n, n ≤ runFrom l i far n f ∧ runFrom l i far n f ≤ n + f
 | 0, n => by simp [runFrom]
 | f + 1, n => by
   rw [runFrom]
   split
   · have := runFrom_bd l i far f (n + 1); omega
   · omega
theorem runLen_le (l : List UInt8) (i far : Nat) : runLen l i far ≤ 67 := by have := runFrom_bd l i far 67 0; unfold runLen; omega
theorem runFrom_same (l : List UInt8) (i far : Nat) : ∀ f n j, n ≤ j → j < runFrom l i far n f → i + j < l.length ∧ l[i + j]? = l[i + j - far]?
 | 0, n, j, h1, h2 => by simp only [runFrom] at h2; omega
 | f + 1, n, j, h1, h2 => by
   rw [runFrom] at h2
   split at h2
   · rename_i hc
     by_cases e : j = n
     · subst e; exact hc
     · exact runFrom_same l i far f (n + 1) j (by omega) h2
   · omega
theorem runLen_same (l : List UInt8) (i far j : Nat) (h : j < runLen l i far) : i + j < l.length ∧ l[i + j]? = l[i + j - far]? := runFrom_same l i far 67 0 j (Nat.zero_le _) h
theorem runFrom_stop (l : List UInt8) (i far n f : Nat) (h : ¬ (i + n < l.length ∧ l[i + n]? = l[i + n - far]?)) : runFrom l i far n f = n := by
 cases f with
 | zero => rfl
 | succ f => rw [runFrom, if_neg h]

theorem bestTo_ok (l : List UInt8) (i : Nat) : ∀ f, (bestTo l i f = (0, 0)) ∨ (4 ≤ (bestTo l i f).1 ∧ 1 ≤ (bestTo l i f).2 ∧ (bestTo l i f).2 ≤ f ∧ (bestTo l i f).1 = runLen l i (bestTo l i f).2)
 | 0 => Or.inl rfl
 | f + 1 => by
   rw [bestTo]
   split
   · rename_i h
     exact Or.inr ⟨h.1, by simp, Nat.le_refl _, rfl⟩
   · rcases bestTo_ok l i f with h | ⟨h1, h2, h3, h4⟩
     · exact Or.inl h
     · exact Or.inr ⟨h1, h2, by omega, h4⟩
theorem copyAt_ok (l : List UInt8) (i : Nat) (h : 0 < (copyAt l i).1) : 4 ≤ (copyAt l i).1 ∧ (copyAt l i).1 ≤ 67 ∧ 1 ≤ (copyAt l i).2 ∧ (copyAt l i).2 ≤ 255 ∧ (copyAt l i).2 ≤ i ∧ i + (copyAt l i).1 ≤ l.length ∧ (copyAt l i).1 = runLen l i (copyAt l i).2 := by
 unfold copyAt at *
 rcases bestTo_ok l i (min 255 i) with h0 | ⟨h1, h2, h3, h4⟩
 · rw [h0] at h; simp at h
 · have h5 := runLen_le l i (bestTo l i (min 255 i)).2
   have h6 := runLen_same l i (bestTo l i (min 255 i)).2 ((bestTo l i (min 255 i)).1 - 1) (by omega)
   refine ⟨h1, by omega, h2, by omega, by omega, by omega, h4⟩
theorem copyAt_none (l : List UInt8) (i : Nat) (h : ¬ 0 < (copyAt l i).1) : copyAt l i = (0, 0) := by
 unfold copyAt at *
 rcases bestTo_ok l i (min 255 i) with h0 | ⟨h1, _⟩
 · exact h0
 · omega

structure Tok where
 text : List UInt8
 len : Nat
 far : Nat
deriving DecidableEq
def flush (t : List UInt8) : List Tok := if t = [] then [] else [⟨t, 0, 0⟩]
def toksFrom (l : List UInt8) (i : Nat) (t : List UInt8) : List Tok :=
 if h : i < l.length then
   if hc : 0 < (copyAt l i).1 then flush t ++ ⟨[], (copyAt l i).1, (copyAt l i).2⟩ :: toksFrom l (i + (copyAt l i).1) []
   else if t.length = 127 then ⟨t, 0, 0⟩ :: toksFrom l (i + 1) [l[i]]
   else toksFrom l (i + 1) (t ++ [l[i]])
 else flush t
termination_by l.length - i
def tokens (l : List UInt8) : List Tok := if 2000 < l.length then [] else toksFrom l 0 []

def encTok (t : Tok) : List UInt8 := if 0 < t.len then [UInt8.ofNat (124 + t.len), UInt8.ofNat t.far] else UInt8.ofNat t.text.length :: t.text
def compress (l : List UInt8) : List UInt8 := (tokens l).flatMap encTok

theorem flush_enc (t : List UInt8) : ((flush t).flatMap encTok).length ≤ t.length + 1 := by
 unfold flush
 split
 · simp
 · simp [encTok]
theorem enc_len (l : List UInt8) : ∀ (d i : Nat) (t : List UInt8), l.length - i ≤ d → ((toksFrom l i t).flatMap encTok).length ≤ t.length + 1 + 2 * (l.length - i) := by
 intro d
 induction d with
 | zero =>
   intro i t hd
   rw [toksFrom, dif_neg (by omega)]
   have := flush_enc t; omega
 | succ d ih =>
   intro i t hd
   rw [toksFrom]
   split
   · rename_i hi
     split
     · rename_i hc
       have hk := copyAt_ok l i hc
       have h1 := ih (i + (copyAt l i).1) [] (by omega)
       have h2 := flush_enc t
       have h3 : (encTok ⟨[], (copyAt l i).1, (copyAt l i).2⟩).length = 2 := by simp [encTok, hc]
       rw [List.flatMap_append, List.length_append, List.flatMap_cons, List.length_append, h3]
       simp only [List.length_nil] at h1
       omega
     · split
       · rename_i ht
         have h1 := ih (i + 1) [l[i]] (by omega)
         have h3 : (encTok ⟨t, 0, 0⟩).length = t.length + 1 := by simp [encTok]
         rw [List.flatMap_cons, List.length_append, h3]
         simp only [List.length_singleton] at h1
         omega
       · have h1 := ih (i + 1) (t ++ [l[i]]) (by omega)
         rw [List.length_append, List.length_singleton] at h1
         omega
   · have := flush_enc t; omega
theorem compress_len (l : List UInt8) : (compress l).length ≤ 4001 := by
 unfold compress tokens
 split
 · simp
 · have := enc_len l l.length 0 [] (by omega)
   simp only [List.length_nil] at this
   omega

def TokOk (y : Tok) : Prop := (y.len = 0 ∧ y.far = 0 ∧ 1 ≤ y.text.length ∧ y.text.length ≤ 127) ∨ (y.text = [] ∧ 4 ≤ y.len ∧ y.len ≤ 67 ∧ 1 ≤ y.far ∧ y.far ≤ 255)
theorem flush_ok (t : List UInt8) (ht : t.length ≤ 127) : ∀ y ∈ flush t, TokOk y := by
 intro y hy
 unfold flush at hy
 split at hy
 · cases hy
 · rename_i hne
   simp only [List.mem_singleton] at hy
   subst hy
   exact Or.inl ⟨rfl, rfl, List.length_pos_iff.2 hne, ht⟩
theorem toks_ok (l : List UInt8) : ∀ (d i : Nat) (t : List UInt8), l.length - i ≤ d → t.length ≤ 127 → ∀ y ∈ toksFrom l i t, TokOk y := by
 intro d
 induction d with
 | zero =>
   intro i t hd ht y hy
   rw [toksFrom, dif_neg (by omega)] at hy
   exact flush_ok t ht y hy
 | succ d ih =>
   intro i t hd ht y hy
   rw [toksFrom] at hy
   split at hy
   · rename_i hi
     split at hy
     · rename_i hc
       have hk := copyAt_ok l i hc
       rcases List.mem_append.1 hy with hy | hy
       · exact flush_ok t ht y hy
       · rcases List.mem_cons.1 hy with rfl | hy
         · exact Or.inr ⟨rfl, hk.1, hk.2.1, hk.2.2.1, hk.2.2.2.1⟩
         · exact ih _ [] (by omega) (by simp) y hy
     · split at hy
       · rename_i h127
         rcases List.mem_cons.1 hy with rfl | hy
         · exact Or.inl ⟨rfl, rfl, by simp only; omega, by simp only; omega⟩
         · exact ih _ _ (by omega) (by simp) y hy
       · exact ih _ _ (by omega) (by rw [List.length_append, List.length_singleton]; omega) y hy
   · exact flush_ok t ht y hy
theorem tokens_ok (l : List UInt8) : ∀ y ∈ tokens l, TokOk y := by
 unfold tokens
 split
 · intro y hy; cases hy
 · exact toks_ok l l.length 0 [] (by omega) (by simp)

def copyOut (out : List UInt8) (far : Nat) : Nat → List UInt8
 | 0 => out
 | n + 1 => copyOut out far n ++ [(copyOut out far n).getD ((copyOut out far n).length - far) 0]
theorem copyOut_len (out : List UInt8) (far n : Nat) : (copyOut out far n).length = out.length + n := by
 induction n with
 | zero => rfl
 | succ n ih => rw [copyOut, List.length_append, List.length_singleton, ih]; omega
def decFrom (s : List UInt8) (i : Nat) (out : List UInt8) : Option (List UInt8) :=
 if h : i < s.length then
   if hb : 1 ≤ s[i].toNat ∧ s[i].toNat ≤ 127 then
     if i + 1 + s[i].toNat ≤ s.length then decFrom s (i + 1 + s[i].toNat) (out ++ (s.drop (i + 1)).take s[i].toNat) else none
   else if s[i].toNat = 0 ∨ s.length ≤ i + 1 ∨ (s.getD (i + 1) 0).toNat = 0 ∨ out.length < (s.getD (i + 1) 0).toNat ∨ 2000 < out.length then none
   else decFrom s (i + 2) (copyOut out (s.getD (i + 1) 0).toNat (s[i].toNat - 124))
 else some out
termination_by s.length - i
def expandB (s : List UInt8) : Option (List UInt8) := match decFrom s 0 [] with
 | some out => if compress out = s then some out else none
 | none => none
def expand1 (s : List UInt8) : List UInt8 := (expandB s).getD []
def expand2 (s : List UInt8) : Bool := (expandB s).isSome
end Go.Proofs.Ytkomnnijnggbpaa
/- Plain mathematics of packed texts: what is packed comes back. -/
namespace Go.Proofs.Ytkomnnijnggbpaa
set_option linter.unusedVariables false

def grow (out : List UInt8) (y : Tok) : List UInt8 := copyOut (out ++ y.text) y.far y.len
def mkAll (out : List UInt8) : List Tok → List UInt8
 | [] => out
 | y :: ys => mkAll (grow out y) ys
def Fits : List UInt8 → List Tok → Prop
 | _, [] => True
 | out, y :: ys => TokOk y ∧ (y.len = 0 ∨ y.far ≤ out.length) ∧ out.length ≤ 2000 ∧ Fits (grow out y) ys

theorem getD_take (l : List UInt8) (k j : Nat) (h : j < k) : (l.take k).getD j 0 = l.getD j 0 := by
 simp only [List.getD_eq_getElem?_getD, List.getElem?_take, if_pos h]
theorem take_more (l : List UInt8) (k : Nat) (h : k < l.length) : l.take (k + 1) = l.take k ++ [l.getD k 0] := by
 rw [List.take_add_one, List.getElem?_eq_getElem h, List.getD_eq_getElem?_getD, List.getElem?_eq_getElem h]; rfl
theorem copy_makes (l : List UInt8) (i f : Nat) (hf : 1 ≤ f) (hfi : f ≤ i) : ∀ n, n ≤ runLen l i f → i ≤ l.length → copyOut (l.take i) f n = l.take (i + n)
 | 0, _, _ => rfl
 | n + 1, h, hi => by
   have hs := runLen_same l i f n (by omega)
   have ih := copy_makes l i f hf hfi n (by omega) hi
   have hl : (l.take (i + n)).length = i + n := by rw [List.length_take]; omega
   rw [copyOut, ih, hl, getD_take _ _ _ (by omega), show i + (n + 1) = i + n + 1 by omega, take_more l (i + n) hs.1]
   simp only [List.getD_eq_getElem?_getD, hs.2]

theorem grow_text (out t : List UInt8) : grow out ⟨t, 0, 0⟩ = out ++ t := rfl
theorem fits_flush (out t : List UInt8) (ys : List Tok) (ht : t.length ≤ 127) (ho : out.length ≤ 2000) (h : Fits (out ++ t) ys) : Fits out (flush t ++ ys) ∧ mkAll out (flush t ++ ys) = mkAll (out ++ t) ys := by
 unfold flush
 split
 · rename_i e
   subst e
   simp at *
   exact h
 · rename_i e
   refine ⟨⟨Or.inl ⟨rfl, rfl, List.length_pos_iff.2 e, ht⟩, Or.inl rfl, ho, h⟩, rfl⟩
theorem toks_make (l : List UInt8) (hl : l.length ≤ 2000) : ∀ (d i : Nat) (t out : List UInt8), l.length - i ≤ d → i ≤ l.length → t.length ≤ 127 → out ++ t = l.take i → Fits out (toksFrom l i t) ∧ mkAll out (toksFrom l i t) = l := by
 intro d
 induction d with
 | zero =>
   intro i t out hd hi ht ho
   have hlen := congrArg List.length ho
   simp only [List.length_append, List.length_take] at hlen
   rw [toksFrom, dif_neg (by omega)]
   have h := fits_flush out t [] ht (by omega) trivial
   rw [List.append_nil] at h
   refine ⟨h.1, h.2.trans ?_⟩
   rw [ho, show i = l.length by omega]
   exact List.take_length
 | succ d ih =>
   intro i t out hd hi ht ho
   have hlen := congrArg List.length ho
   simp only [List.length_append, List.length_take] at hlen
   rw [toksFrom]
   split
   · rename_i hil
     split
     · rename_i hc
       have hk := copyAt_ok l i hc
       have hm := copy_makes l i (copyAt l i).2 hk.2.2.1 hk.2.2.2.2.1 (copyAt l i).1 (Nat.le_of_eq hk.2.2.2.2.2.2) hi
       have h1 := ih (i + (copyAt l i).1) [] (l.take (i + (copyAt l i).1)) (by omega) hk.2.2.2.2.2.1 (by simp) (by simp)
       have hg : grow (out ++ t) ⟨[], (copyAt l i).1, (copyAt l i).2⟩ = l.take (i + (copyAt l i).1) := by
         unfold grow; rw [List.append_nil, ho]; exact hm
       have h2 := fits_flush out t (⟨[], (copyAt l i).1, (copyAt l i).2⟩ :: toksFrom l (i + (copyAt l i).1) []) ht (by omega) ⟨Or.inr ⟨rfl, hk.1, hk.2.1, hk.2.2.1, hk.2.2.2.1⟩, Or.inr (by rw [ho, List.length_take]; simp only; omega), by rw [ho, List.length_take]; omega, by rw [hg]; exact h1.1⟩
       refine ⟨h2.1, h2.2.trans ?_⟩
       rw [mkAll, hg]
       exact h1.2
     · have hone : l.take (i + 1) = l.take i ++ [l[i]] := by rw [take_more l i hil, List.getD_eq_getElem?_getD, List.getElem?_eq_getElem hil]; rfl
       split
       · rename_i h127
         have h1 := ih (i + 1) [l[i]] (l.take i) (by omega) (by omega) (by simp) hone.symm
         rw [← ho] at h1
         exact ⟨⟨Or.inl ⟨rfl, rfl, by simp only; omega, ht⟩, Or.inl rfl, by omega, h1.1⟩, h1.2⟩
       · exact ih (i + 1) (t ++ [l[i]]) out (by omega) (by omega) (by rw [List.length_append, List.length_singleton]; omega) (by rw [← List.append_assoc, ho, hone])
   · have h := fits_flush out t [] ht (by omega) trivial
     rw [List.append_nil] at h
     refine ⟨h.1, h.2.trans ?_⟩
     rw [ho, show i = l.length by omega]
     exact List.take_length
theorem tokens_make (l : List UInt8) (hl : l.length ≤ 2000) : Fits [] (tokens l) ∧ mkAll [] (tokens l) = l := by
 unfold tokens
 rw [if_neg (by omega)]
 exact toks_make l hl l.length 0 [] [] (by omega) (by omega) (by simp) (by simp)

theorem ofNat_small {n : Nat} (h : n < 256) : (UInt8.ofNat n).toNat = n := by simp [UInt8.toNat_ofNat']; omega
theorem dec_tok (pre suf out : List UInt8) (y : Tok) (hy : TokOk y) (hf : y.len = 0 ∨ y.far ≤ out.length) (ho : out.length ≤ 2000) : decFrom (pre ++ (encTok y ++ suf)) pre.length out = decFrom (pre ++ (encTok y ++ suf)) (pre.length + (encTok y).length) (grow out y) := by
 rcases hy with ⟨h1, h2, h3, h4⟩ | ⟨h1, h2, h3, h4, h5⟩
 · obtain ⟨t, n, f⟩ := y
   simp only at h1 h2 h3 h4
   subst h1 h2
   have e : encTok ⟨t, 0, 0⟩ = UInt8.ofNat t.length :: t := by simp [encTok]
   rw [e]
   have hlt : pre.length < (pre ++ (UInt8.ofNat t.length :: t ++ suf)).length := by simp
   have hb : (pre ++ (UInt8.ofNat t.length :: t ++ suf))[pre.length].toNat = t.length := by
     rw [List.getElem_append_right (Nat.le_refl _)]
     simp only [Nat.sub_self, List.cons_append, List.getElem_cons_zero]
     exact ofNat_small (by omega)
   rw [decFrom, dif_pos hlt, dif_pos (by rw [hb]; omega), if_pos (by rw [hb]; simp; omega)]
   rw [hb]
   congr 1
   · simp; omega
   · rw [grow_text]
     congr 1
     rw [List.drop_append, List.drop_eq_nil_of_le (show pre.length ≤ pre.length + 1 by omega)]
     simp
 · obtain ⟨t, n, f⟩ := y
   simp only at h1 h2 h3 h4 h5 hf
   subst h1
   have e : encTok ⟨[], n, f⟩ = [UInt8.ofNat (124 + n), UInt8.ofNat f] := by simp [encTok]; omega
   rw [e]
   have hlt : pre.length < (pre ++ ([UInt8.ofNat (124 + n), UInt8.ofNat f] ++ suf)).length := by simp
   have hb : (pre ++ ([UInt8.ofNat (124 + n), UInt8.ofNat f] ++ suf))[pre.length].toNat = 124 + n := by
     rw [List.getElem_append_right (Nat.le_refl _)]
     simp only [Nat.sub_self, List.cons_append, List.getElem_cons_zero]
     exact ofNat_small (by omega)
   have hb2 : ((pre ++ ([UInt8.ofNat (124 + n), UInt8.ofNat f] ++ suf)).getD (pre.length + 1) 0).toNat = f := by
     rw [List.getD_eq_getElem?_getD, List.getElem?_append_right (by omega), show pre.length + 1 - pre.length = 1 by omega]
     simp only [List.cons_append, List.getElem?_cons_succ, List.getElem?_cons_zero, Option.getD_some]
     exact ofNat_small (by omega)
   rw [decFrom, dif_pos hlt, dif_neg (by rw [hb]; omega), if_neg (by rw [hb, hb2]; simp; omega), hb, hb2]
   rw [show 124 + n - 124 = n by omega]
   unfold grow
   simp
theorem dec_toks (suf : List UInt8) : ∀ (ys : List Tok) (pre out : List UInt8), Fits out ys → decFrom (pre ++ (ys.flatMap encTok ++ suf)) pre.length out = decFrom (pre ++ (ys.flatMap encTok ++ suf)) (pre.length + (ys.flatMap encTok).length) (mkAll out ys)
 | [], pre, out, _ => by simp [mkAll]
 | y :: ys, pre, out, h => by
   obtain ⟨h1, h2, h3, h4⟩ := h
   have ih := dec_toks suf ys (pre ++ encTok y) (grow out y) h4
   have e : pre ++ ((y :: ys).flatMap encTok ++ suf) = pre ++ (encTok y ++ (ys.flatMap encTok ++ suf)) := by simp
   rw [e, dec_tok pre _ out y h1 h2 h3]
   rw [List.append_assoc, List.length_append] at ih
   rw [ih, mkAll]
   congr 1
   simp; omega
theorem dec_compress (l : List UInt8) (hl : l.length ≤ 2000) : decFrom (compress l) 0 [] = some l := by
 obtain ⟨h1, h2⟩ := tokens_make l hl
 have h := dec_toks [] (tokens l) [] [] h1
 simp only [List.nil_append, List.append_nil, List.length_nil, Nat.zero_add] at h
 unfold compress
 rw [h, h2, decFrom, dif_neg (by omega)]
theorem expand_compress (l : List UInt8) (hl : l.length ≤ 2000) : expand1 (compress l) = l ∧ expand2 (compress l) = true := by
 unfold expand1 expand2 expandB
 rw [dec_compress l hl]
 simp
theorem encTok_len (y : Tok) : 1 ≤ (encTok y).length := by unfold encTok; split <;> simp
theorem expand_ok (s : List UInt8) (h : expand2 s = true) : compress (expand1 s) = s ∧ (expand1 s).length ≤ 2000 := by
 unfold expand2 expandB at h
 unfold expand1 expandB
 cases hd : decFrom s 0 [] with
 | none => rw [hd] at h; cases h
 | some out =>
   rw [hd] at h
   by_cases hc : compress out = s
   · simp only [if_pos hc, Option.getD_some]
     refine ⟨hc, ?_⟩
     by_cases hl : out.length ≤ 2000
     · exact hl
     · have : compress out = [] := by unfold compress tokens; rw [if_pos (by omega)]; rfl
       rw [hc] at this
       subst this
       rw [decFrom, dif_neg (by simp)] at hd
       cases hd
       simp
   · simp [if_neg hc] at h
theorem expand_no (s : List UInt8) (h : expand2 s = false) : expand1 s = [] := by
 unfold expand2 at h
 unfold expand1
 cases hd : expandB s with
 | none => rfl
 | some out => rw [hd] at h; cases h
end Go.Proofs.Ytkomnnijnggbpaa
/- Plain mathematics of sums of 32 bits: one step turns linearly, nothing but nought goes to nought; some bits in a row that were turned are told. -/
namespace Go.Proofs.Ytkomnnijnggbpaa
set_option linter.unusedVariables false

def poly : Nat := 2197175160
def stp (x : Nat) : Nat := (x / 2) ^^^ (if x % 2 = 1 then poly else 0)
def stN : Nat → Nat → Nat
 | 0, x => x
 | n + 1, x => stN n (stp x)

theorem st_xor (x y : Nat) : stp (x ^^^ y) = stp x ^^^ stp y := by
 unfold stp
 have h1 : (x ^^^ y) / 2 = x / 2 ^^^ y / 2 := by
   have := Nat.xor_div_two_pow (a := x) (b := y) (n := 1); simpa using this
 have h2 : (x ^^^ y) % 2 = (x % 2) ^^^ (y % 2) := by
   have := Nat.xor_mod_two_pow (a := x) (b := y) (n := 1); simpa using this
 rw [h1, h2]
 have ax : x % 2 = 0 ∨ x % 2 = 1 := by omega
 have ay : y % 2 = 0 ∨ y % 2 = 1 := by omega
 rcases ax with ax | ax <;> rcases ay with ay | ay <;> simp [ax, ay]
 · exact Nat.xor_assoc _ _ _
 · rw [Nat.xor_assoc, Nat.xor_comm (y / 2), ← Nat.xor_assoc]
 · rw [Nat.xor_comm (y / 2) poly, ← Nat.xor_assoc, Nat.xor_assoc (x / 2), Nat.xor_self, Nat.xor_zero]

theorem stN_xor (n : Nat) : ∀ x y, stN n (x ^^^ y) = stN n x ^^^ stN n y := by
 induction n with
 | zero => intro x y; rfl
 | succ n ih => intro x y; simp only [stN]; rw [st_xor, ih]

theorem st_two (z : Nat) : stp (2 * z) = z := by
 unfold stp
 have h1 : 2 * z / 2 = z := by omega
 have h2 : 2 * z % 2 = 0 := by omega
 rw [h1, h2]; simp

theorem stN_pow (n : Nat) : ∀ z, stN n (2 ^ n * z) = z := by
 induction n with
 | zero => intro z; simp [stN]
 | succ n ih =>
   intro z
   simp only [stN]
   have : 2 ^ (n + 1) * z = 2 * (2 ^ n * z) := by rw [Nat.pow_succ]; rw [Nat.mul_comm (2 ^ n) 2, Nat.mul_assoc]
   rw [this, st_two, ih]

theorem stN_add (m n : Nat) : ∀ x, stN (m + n) x = stN n (stN m x) := by
 induction m with
 | zero => intro x; simp [stN]
 | succ m ih => intro x; rw [Nat.succ_add]; simp only [stN]; exact ih _

theorem st_lt {x : Nat} (h : x < 4294967296) : stp x < 4294967296 := by
 unfold stp
 have : (x / 2) ^^^ (if x % 2 = 1 then poly else 0) < 2 ^ 32 := by
   apply Nat.xor_lt_two_pow
   · omega
   · split <;> simp [poly]
 exact this

theorem stN_lt (n : Nat) : ∀ {x : Nat}, x < 4294967296 → stN n x < 4294967296 := by
 induction n with
 | zero => intro x h; exact h
 | succ n ih => intro x h; exact ih (st_lt h)

theorem split_bits (n x : Nat) : x = (x % 2 ^ n) ^^^ (2 ^ n * (x / 2 ^ n)) := by
 apply Nat.eq_of_testBit_eq
 intro i
 rw [Nat.testBit_xor, Nat.testBit_mod_two_pow, Nat.testBit_two_pow_mul, Nat.testBit_div_two_pow]
 by_cases h : i < n
 · have : ¬ i ≥ n := by omega
   simp [h, this]
 · have h' : n ≤ i := by omega
   have e : i - n + n = i := by omega
   simp [h, h', e]

theorem stN_split (n x : Nat) : stN n x = stN n (x % 2 ^ n) ^^^ x / 2 ^ n := by
 have h := split_bits n x
 have e := congrArg (stN n) h
 rw [stN_xor, stN_pow] at e
 exact e

def crcB (x : Nat) (c : UInt8) : Nat := stN 8 (x ^^^ c.toNat)
theorem crcB_table (x : Nat) (c : UInt8) : crcB x c = x / 256 ^^^ stN 8 ((x % 256) ^^^ c.toNat) := by
 unfold crcB
 rw [stN_split 8]
 have hc := c.toNat_lt
 have e1 : (x ^^^ c.toNat) % 2 ^ 8 = (x % 256) ^^^ c.toNat := by
   rw [Nat.xor_mod_two_pow]
   congr 1
   exact Nat.mod_eq_of_lt (by simpa using hc)
 have e2 : (x ^^^ c.toNat) / 2 ^ 8 = x / 256 := by
   rw [Nat.xor_div_two_pow]
   have : c.toNat / 2 ^ 8 = 0 := Nat.div_eq_of_lt (by simpa using hc)
   rw [this, Nat.xor_zero]
 rw [e1, e2, Nat.xor_comm]

theorem crcB_lt {x : Nat} {c : UInt8} (h : x < 4294967296) : crcB x c < 4294967296 := by
 unfold crcB
 apply stN_lt
 have hc := c.toNat_lt
 have : x ^^^ c.toNat < 2 ^ 32 := Nat.xor_lt_two_pow h (by omega)
 exact this

def crcF (x : Nat) (l : List UInt8) : Nat := l.foldl crcB x
theorem crcF_lt (l : List UInt8) : ∀ {x : Nat}, x < 4294967296 → crcF x l < 4294967296 := by
 induction l with
 | nil => intro x h; exact h
 | cons c l ih => intro x h; exact ih (crcB_lt h)
theorem crcF_snoc (x : Nat) (l : List UInt8) (c : UInt8) : crcF x (l ++ [c]) = crcB (crcF x l) c := by simp [crcF]

def crc (l : List UInt8) : Nat := 4294967295 - crcF 4294967295 l
theorem crc_lt (l : List UInt8) : crc l < 4294967296 := by unfold crc; omega
end Go.Proofs.Ytkomnnijnggbpaa
/- Bits of numbers of 64 bits that are not below nought. -/
namespace Go.Proofs.Ytkomnnijnggbpaa
open Go.RowKit
set_option linter.unusedVariables false

theorem ofInt_i64 (a : Nat) (ha : a < 9223372036854775808) : (BitVec.ofInt 64 (a : Int)).toNat = a := by
 rw [BitVec.ofInt_natCast, BitVec.toNat_ofNat]; exact Nat.mod_eq_of_lt (by omega)
theorem i64_or_nat (a b : Nat) (ha : a < 9223372036854775808) (hb : b < 9223372036854775808) : bits .or .i64 (a : Int) (b : Int) = ((a ||| b : Nat) : Int) := by
 have hx : a ||| b < 2 ^ 63 := Nat.or_lt_two_pow (by omega) (by omega)
 show IntKind.i64.wrap ((BitVec.ofInt 64 (a : Int) ||| BitVec.ofInt 64 (b : Int)).toNat : Int) = _
 rw [BitVec.toNat_or, ofInt_i64 a ha, ofInt_i64 b hb, IntKind.wrap_i64]
 omega
theorem and_one (x : Nat) (h : x < 4294967296) : bits .and .u32 (x : Int) 1 = ((x % 2 : Nat) : Int) := by
 have := u32_and_nat x 1 h (by omega)
 rw [show ((1 : Nat) : Int) = 1 from rfl] at this
 rw [this, Nat.and_one_is_mod]
theorem stp_odd {x : Nat} (h : x < 4294967296) (h1 : x % 2 = 1) : bits .xor .u32 ((x : Int) / 2) 2197175160 = ((stp x : Nat) : Int) := by
 have := u32_xor_nat (x / 2) 2197175160 (by omega) (by omega)
 have e : ((x / 2 : Nat) : Int) = (x : Int) / 2 := by omega
 rw [e, show ((2197175160 : Nat) : Int) = 2197175160 from rfl] at this
 rw [this]
 unfold stp poly
 rw [if_pos h1]
theorem stp_even {x : Nat} (h1 : x % 2 = 0) : (x : Int) / 2 = ((stp x : Nat) : Int) := by
 unfold stp
 rw [if_neg (by omega), Nat.xor_zero]
 omega
theorem stN_snoc (n x : Nat) : stN (n + 1) x = stp (stN n x) := by
 rw [stN_add n 1]; rfl
theorem crc_turn (x : Nat) (h : x < 4294967296) : bits .xor .u32 4294967295 (x : Int) = ((4294967295 - x : Nat) : Int) := by
 have h1 := u32_xor_nat 4294967295 x (by omega) h
 rw [show ((4294967295 : Nat) : Int) = 4294967295 from rfl] at h1
 rw [h1]
 congr 1
 have e : (4294967295 : Nat) = 2 ^ 32 - 1 := by decide
 apply Nat.eq_of_testBit_eq
 intro i
 rw [Nat.testBit_xor, e, Nat.testBit_two_pow_sub_one, show 2 ^ 32 - 1 - x = 2 ^ 32 - (x + 1) by omega, Nat.testBit_two_pow_sub_succ (by omega)]
 by_cases hi : i < 32
 · simp [hi]
 · have : x.testBit i = false := Nat.testBit_lt_two_pow (Nat.lt_of_lt_of_le h (Nat.pow_le_pow_right (n := 2) (by omega) (by omega : 32 ≤ i)))
   simp [hi, this]
theorem crc_end (l : List UInt8) : wrap64 (bits .xor .u32 IntKind.u32.max ((crcF 4294967295 l : Nat) : Int)) = ((crc l : Nat) : Int) := by
 have h := crcF_lt l (x := 4294967295) (by omega)
 have e : IntKind.u32.max = 4294967295 := rfl
 rw [e, crc_turn _ h]
 unfold crc wrap64
 omega
theorem xor_byte (x : Nat) (c : UInt8) (h : x < 4294967296) : bits .xor .u32 (x : Int) (c.toNat : Int) = ((x ^^^ c.toNat : Nat) : Int) := u32_xor_nat x c.toNat h (by have := c.toNat_lt; omega)
theorem xor_byte_lt (x : Nat) (c : UInt8) (h : x < 4294967296) : x ^^^ c.toNat < 4294967296 := by
 have hc := c.toNat_lt
 have : x ^^^ c.toNat < 2 ^ 32 := Nat.xor_lt_two_pow h (by omega)
 exact this

set_option maxHeartbeats 1000000 in
theorem specCrc (s : ByteArray) (w : World) (hs : s.size ≤ maxLen) :
   Calls Try.prog 82 #[.string s] w fun e w' => e = .returned (.int .i64 (crc s.data.toList : Nat)) ∧ w = w' := by
 unfold maxLen at hs
 go_enter Try.func82, Try.ntmps82
 go_wp2_with fail
 go_loop [3, 4] (fun x i => ∃ k : Nat, k ≤ s.size ∧ i = .int .i64 k ∧ x = .int .u32 (crcF 4294967295 (s.data.toList.take k) : Nat)) (fun _ i => s.size - (intOf i).toNat)
 case atStart => exact ⟨0, Nat.zero_le _, rfl, rfl⟩
 case round =>
   obtain ⟨k, hk, rfl, rfl⟩ := hrel
   have hX := crcF_lt (s.data.toList.take k) (x := 4294967295) (by omega)
   by_cases hlt : k < s.size
   · have HS := Lib.hid (show crcF 4294967295 (s.data.toList.take (k + 1)) = crcB (crcF 4294967295 (s.data.toList.take k)) s[k] by rw [take_snoc s k hlt, crcF_snoc])
     have HB := Lib.hid (xor_byte _ s[k] hX)
     have hbl := xor_byte_lt _ s[k] hX
     have hc := s[k].toNat_lt
     generalize crcF 4294967295 (s.data.toList.take k) = X at HS HB hbl hX ⊢
     have HX := Lib.hid hX
     clear hX
     go_wp2_with fail
     rw [HB.out]
     generalize hY : X ^^^ s[k].toNat = Y at hbl ⊢
     have HY := Lib.hid hY
     have HYL := Lib.hid hbl
     clear hY hbl
     go_loop [3, 5] (fun x i => ∃ j : Nat, j ≤ 8 ∧ i = .int .i64 j ∧ x = .int .u32 (stN j Y : Nat)) (fun _ i => 8 - (intOf i).toNat)
     case atStart => exact ⟨0, by omega, rfl, rfl⟩
     case round =>
       obtain ⟨j, hj, rfl, rfl⟩ := hrel
       have hZ := stN_lt j HYL.out
       by_cases hj8 : j < 8
       · have HN := Lib.hid (stN_snoc j Y)
         generalize stN j Y = Z at hZ HN ⊢
         rcases Nat.mod_two_eq_zero_or_one Z with h2 | h2
         · have ha := and_one Z hZ
           rw [h2] at ha
           have HE := Lib.hid (stp_even h2)
           have HZ := Lib.hid hZ
           clear h2 hZ
           go_wp2
           go_round
           case rel => exact ⟨j + 1, by omega, by go_num, congrArg (Value.int IntKind.u32) (by rw [HN.out, HE.out])⟩
           case measure => simp [intOf]; omega
         · have ha := and_one Z hZ
           rw [h2] at ha
           have HE := Lib.hid (stp_odd hZ h2)
           have HZ := Lib.hid hZ
           clear h2 hZ
           go_wp2
           go_round
           case rel => exact ⟨j + 1, by omega, by go_num, congrArg (Value.int IntKind.u32) (by rw [HN.out, HE.out])⟩
           case measure => simp [intOf]; omega
       · obtain rfl : j = 8 := by omega
         have HE := Lib.hid (show stN 8 Y = crcF 4294967295 (s.data.toList.take (k + 1)) by rw [HS.out, ← HY.out]; rfl)
         clear hZ
         rw [HE.out]
         go_wp2
         go_round
         case rel => exact ⟨k + 1, by omega, by go_num, rfl⟩
         case measure => simp [intOf]; omega
   · obtain rfl : k = s.size := by omega
     have e0 : s.data.toList.take s.size = s.data.toList := List.take_of_length_le (by simp)
     rw [e0] at hX ⊢
     have HT := Lib.hid (crc_end s.data.toList)
     clear e0 hX
     go_wp2
     go_ret
     exact ⟨ret_int HT.out, rfl⟩
theorem specIn_yes (x a b : Int) (w : World) (h1 : a ≤ x) (h2 : x ≤ b) :
   Calls Try.prog 38 #[.int .i64 x, .int .i64 a, .int .i64 b] w fun e w' => e = .returned (.bool true) ∧ w = w' := by
 go_enter Try.func38, Try.ntmps38
 go_wp2
 go_ret
 exact ⟨by simp, rfl⟩
theorem specIn_no (x a b : Int) (w : World) (h : x < a ∨ b < x) :
   Calls Try.prog 38 #[.int .i64 x, .int .i64 a, .int .i64 b] w fun e w' => e = .returned (.bool false) ∧ w = w' := by
 by_cases h1 : a ≤ x
 · have h2 : ¬ x ≤ b := by omega
   clear h
   go_enter Try.func38, Try.ntmps38
   go_wp2
   go_ret
   exact ⟨by simp, rfl⟩
 · clear h
   go_enter Try.func38, Try.ntmps38
   go_wp2
   go_ret
   exact ⟨by simp, rfl⟩
theorem infoB : (Try.prog.info? 5).map (fun i => (i.zero, i.size, i.bytes)) = some (some (.int .u8 0), 1, 1) := by kernel_rfl

def u8v (c : UInt8) : Value := .int .u8 c.toNat

structure BRow (w0 w : World) (v : Value) (xs : List UInt8) : Prop where
 row : w.ownsRow w0.heap.size 5 1 v xs.length (xs.map u8v)
 below : Below w0.heap.size w0 w

theorem BRow.push {w0 w w' : World} {v v' : Value} {xs : List UInt8} (t : BRow w0 w v xs) (o : Obj) (x : UInt8)
   (hown : w'.ownsRow w0.heap.size 5 1 v' (xs.length + 1) (xs.map u8v ++ [u8v x])) (hg : (w.alloc o).grownBy w' v.ownBlock) :
   ∃ g c, v' = .slice (some ⟨g, 0, none⟩) (xs.length + 1) c ∧ BRow w0 w' v' (xs ++ [x]) := by
 obtain ⟨g, c, rfl⟩ := ownsRow_succ hown
 refine ⟨g, c, rfl, by simpa using hown, ?_⟩
 exact (t.below.alloc t.below.size o).grown hg (by have := t.below.size; simp; omega) (fun k hk => (t.row.lt k hk).1)

theorem wp_pushB {w0 w : World} {v : Value} {xs : List UInt8} (y : UInt8) {Y : Int} (hY : Y = y.toNat) {ops : Array Oper} {rest : List Oper} {o : Oper} {act : Act} {Q : Exit → Act → World → Prop} (hgd : o.guard = none) (s x : Operand)
   (hop : o.op = .call { callee := .builtin .append, args := #[s, x], argTypes := #[22, 22] })
   (hs : act.eval s = v) (hx : act.eval x = .slice (some ⟨w.heap.size, 0, none⟩) 1 1) (t : BRow w0 w v xs) (hl : xs.length < 1000000000)
   (hk : ∀ g c w', BRow w0 w' (.slice (some ⟨g, 0, none⟩) (xs.length + 1) c) (xs ++ [y]) → wpList Try.prog ops Q rest (act.put o.dst (.slice (some ⟨g, 0, none⟩) (xs.length + 1) c)) w') :
   wpList Try.prog ops Q (o :: rest) act (w.alloc (.cells #[.int .u8 Y] 5)) := by
 subst hY
 obtain ⟨ti, hti, hz0, hz1, hz2⟩ := info_parts infoB
 refine wpList_append_own _ hgd s x 22 hop w0.heap.size 5 ti (.int .u8 0) 1 1 Try.underlying22 hti hz0 hz1 hz2 rfl (by decide) _ xs.length (xs.map u8v) hs (t.row.alloc _)
   ⟨w.heap.size, 0, none⟩ 1 1 [u8v y] hx rfl (cell_one_new _ _ _) (fun u hu => by simp at hu; subst hu; rfl) (by unfold maxLen; omega) (by omega) (by have := t.below.size; simp; omega) ?_
 intro v' w' hown hg _
 obtain ⟨g, c, rfl, t'⟩ := t.push _ y hown hg
 exact hk g c w' t'

theorem brow_made (w : World) : BRow w (w.alloc (.cells #[] 5)) (.slice (some ⟨w.heap.size, 0, none⟩) 0 0) [] :=
 ⟨World.ownsRow_made w #[] 0 (Nat.le_refl _) (by unfold maxLen; omega) (by simp), (Below.refl _ w).alloc (Nat.le_refl _) _⟩
theorem brow_nil (w : World) : BRow w w (.slice none 0 0) [] := ⟨World.ownsRow_nil _ _ _ _, Below.refl _ _⟩

theorem BRow.cell {w0 w : World} {g c n : Nat} {xs : List UInt8} (t : BRow w0 w (.slice (some ⟨g, 0, none⟩) n c) xs) (j : Nat) (hj : j < xs.length) : w.cell? ⟨g, j, none⟩ = some (u8v (xs.getD j 0)) := by
 have := t.row.cells (g := g) rfl j (u8v (xs.getD j 0)) (by simp [List.getElem?_eq_getElem hj])
 have e : (⟨g, 0, none⟩ : Addr).add j = ⟨g, j, none⟩ := by
   unfold Addr.add; split
   · subst_vars; rfl
   · simp
 rwa [e] at this

theorem strOf (xs : List UInt8) : strOfNums (xs.map fun c => (c.toNat : Int)) = ⟨xs.toArray⟩ := by
 unfold strOfNums
 rw [List.map_map]
 congr 2
 conv => rhs; rw [← List.map_id xs]
 apply List.map_congr_left
 intro a _
 simp [Function.comp]

theorem str_of_cells {w : World} {g c n : Nat} (xs : List UInt8) (hn : xs.length = n) (h : ∀ j, j < xs.length → w.cell? ⟨g, j, none⟩ = some (u8v (xs.getD j 0))) :
   (convert 22 9 (.slice (some ⟨g, 0, none⟩) n c)).run Try.prog w = .ok (.string ⟨xs.toArray⟩) w := by
 rw [← strOf]
 refine run_convert_bytes_arg (P := Try.prog) w 22 5 Try.underlying22 Try.underlying5 g 0 n c (xs.map fun c => (c.toNat : Int)) (by simpa using hn) (fun j hj => ?_) 9 Try.underlying9
 rw [Nat.zero_add, h j (by omega)]
 have hj' : j < xs.length := by omega
 simp [u8v, List.getElem?_eq_getElem hj']

theorem BRow.str {w0 w : World} {g c n : Nat} {xs : List UInt8} (t : BRow w0 w (.slice (some ⟨g, 0, none⟩) n c) xs) (hn : xs.length = n) :
   (convert 22 9 (.slice (some ⟨g, 0, none⟩) n c)).run Try.prog w = .ok (.string ⟨xs.toArray⟩) w :=
 str_of_cells xs hn t.cell

structure BArr (w0 w : World) (g : Nat) (xs : List UInt8) : Prop where
 block : w.heap[g]? = some (.cells (xs.map u8v).toArray 5 (0, 0))
 own : w0.heap.size ≤ g
 below : Below w0.heap.size w0 w

theorem BArr.cell {w0 w : World} {g : Nat} {xs : List UInt8} (t : BArr w0 w g xs) (j : Nat) (hj : j < xs.length) : w.cell? ⟨g, j, none⟩ = some (u8v (xs.getD j 0)) := by
 simp [World.cell?, t.block, List.getElem?_eq_getElem hj]
theorem BArr.frozen {w0 w : World} {g : Nat} {xs : List UInt8} (t : BArr w0 w g xs) (j : Nat) : w.frozen? ⟨g, j, none⟩ = false := by
 simp [World.frozen?, t.block]
theorem BArr.set {w0 w : World} {g : Nat} {xs : List UInt8} (t : BArr w0 w g xs) (k : Nat) (c : UInt8) {v : Value} (hv : v = u8v c) : BArr w0 (w.setCell ⟨g, k, none⟩ v) g (xs.set k c) := by
 subst hv
 refine ⟨?_, t.own, t.below.trans ?_⟩
 · rw [set_block _ t.block]
   simp [List.map_set]
 · exact (Below.refl _ _).setCell t.own _
theorem BArr.drewN {w0 w : World} {g : Nat} {xs : List UInt8} (t : BArr w0 w g xs) (n : Nat) : BArr w0 (w.drewN n) g xs := ⟨t.block, t.own, t.below.trans (below_draws n)⟩
theorem BArr.str {w0 w : World} {g c n : Nat} {xs : List UInt8} (t : BArr w0 w g xs) (hn : xs.length = n) :
   (convert 22 9 (.slice (some ⟨g, 0, none⟩) n c)).run Try.prog w = .ok (.string ⟨xs.toArray⟩) w := str_of_cells xs hn t.cell

theorem madeB (n : Nat) : (madeCells (Value.int .u8 0).cells (n * 1)).toList = (List.replicate n (0 : UInt8)).map u8v := by
 simp only [madeCells, Value.cells, u8v, List.map_replicate, Nat.mul_one]
 apply List.ext_getElem
 · simp
 · intro i h1 h2
   have : i % 1 = 0 := by omega
   simp [this]

theorem wp_makeB {w : World} {ops : Array Oper} {rest : List Oper} {o : Oper} {act : Act} {Q : Exit → Act → World → Prop} (hgd : o.guard = none) (l c : Operand) (hop : o.op = Op.makeSlice 22 l c)
   (L C : Int) (n : Nat) (hl : act.eval l = .int .i64 L) (hc : act.eval c = .int .i64 C) (hL : L = n) (hC : C = n) (hn : n < 1000000000)
   (hk : ∀ w', BArr w w' w.heap.size (List.replicate n 0) → wpList Try.prog ops Q rest (act.put o.dst (.slice (some ⟨w.heap.size, 0, none⟩) n n)) w') :
   wpList Try.prog ops Q (o :: rest) act w := by
 obtain ⟨ti, hti, hz0, hz1, hz2⟩ := info_parts infoB
 refine wpList_make_full _ hgd l c 22 hop w.heap.size 5 ti (.int .u8 0) 1 Try.underlying22 hti hz0 hz1 .i64 .i64 L C n hl hc hL hC (by rw [hz2]; omega) (by unfold maxLen; omega) (Nat.le_refl _) ?_
 intro w' hown hg
 refine hk w' ⟨?_, Nat.le_refl _, ⟨hg.os, hg.tape, hg.output, hg.size, fun k hk => hg.block k hk (by simp)⟩⟩
 rcases hown.2 with ⟨h0, _⟩ | ⟨g, cap, cur, h1, _, h2, _, _, h3, h4⟩
 · cases h0
 · cases h1
   rw [h2]
   have e : cur = ((List.replicate n (0 : UInt8)).map u8v).toArray := by
     apply Array.toList_inj.1
     rw [← madeB, ← h4, List.take_of_length_le (by simp; omega)]
   rw [e]
end Go.Proofs.Ytkomnnijnggbpaa
/- Contract of the program's PutFix. -/

namespace Go.Proofs.Ytkomnnijnggbpaa
open Go.RowKit
set_option linter.unusedVariables false

def TextIs (w : World) (l : List UInt8) (e : Ending) (w' : World) : Prop := e = .returned (.string ⟨l.toArray⟩) ∧ Below w.heap.size w w'

theorem TextIs.text {w w' : World} {l : List UInt8} {e : Ending} (h : TextIs w l e w') : ∃ S : ByteArray, S.data.toList = l ∧ S.size = l.length ∧ e = .returned (.string S) ∧ Below w.heap.size w w' :=
 ⟨⟨l.toArray⟩, rfl, by simp [ByteArray.size], h.1, h.2⟩
theorem putFix_no {n b : Int} (h : n < 0 ∨ b < 1 ∨ 4 < b) : putFix n b = [] := by unfold putFix; rw [if_neg (by omega)]
theorem putFix_in {n b : Nat} (h1 : 1 ≤ b) (h4 : b ≤ 4) : putFix n b = fixB n b := by unfold putFix; rw [if_pos (by omega)]; rfl

theorem byteInt (n k : Nat) : ((n : Int) / 2 ^ (8 * k) % 256) = ((UInt8.ofNat (n / 2 ^ (8 * k))).toNat : Int) := by
 have e : (n : Int) / 2 ^ (8 * k) = ((n / 2 ^ (8 * k) : Nat) : Int) := by simp
 rw [e, UInt8.toNat_ofNat']
 omega

theorem fix_set (n b k : Nat) (h : k < b) : (fixB n k ++ List.replicate (b - k) 0).set k (UInt8.ofNat (n / 2 ^ (8 * k))) = fixB n (k + 1) ++ List.replicate (b - (k + 1)) 0 := by
 rw [List.set_append_right _ _ (by rw [fix_length]; omega), fix_length, Nat.sub_self]
 have e : b - k = (b - (k + 1)) + 1 := by omega
 rw [e, List.replicate_succ, List.set_cons_zero, fix_succ]
 simp

set_option maxHeartbeats 400000 in
theorem implPutFix_in (n b : Nat) (w : World) (hn : (n : Int) ≤ 9223372036854775807) (h1 : 1 ≤ b) (h4 : b ≤ 4) :
   Calls Try.prog 59 #[.int .i64 n, .int .i64 b] w (TextIs w (fixB n b)) := by
 go_enter Try.func59, Try.ntmps59
 go_wp2_with (at_make; refine wp_makeB rfl _ _ rfl _ _ b rfl rfl rfl rfl (by omega) ?_; intro w2 t2; have T2 := Lib.hid t2; clear t2)
 go_loopw [21] (fun i wr => ∃ (k : Nat), k ≤ b ∧ i = .int .i64 k ∧ BArr w wr w.heap.size (fixB n k ++ List.replicate (b - k) 0)) (fun i _ => b - (intOf i).toNat)
 case atStart => exact ⟨0, Nat.zero_le _, rfl, T2.out⟩
 case round =>
   obtain ⟨k, hk, rfl, t⟩ := hrel
   have TT := Lib.hid t
   by_cases hlt : k < b
   · have HS := Lib.hid (fix_set n b k hlt)
     have hc := t.cell k (by simp [fix_length]; omega)
     have hf := t.frozen k
     clear t
     go_wp2
     go_roundw
     case rel => exact ⟨k + 1, by omega, by go_num, by rw [← HS.out]; exact TT.out.set k _ (by unfold u8v; rw [← byteInt])⟩
     case measure => simp [intOf]; omega
   · obtain rfl : k = b := by omega
     have hcv := t.str (c := k) (n := k) (by simp [fix_length])
     clear t
     go_wp2
     go_ret
     exact ⟨ret_text (by simp), TT.out.below⟩

set_option maxHeartbeats 400000 in
theorem implPutFix (n b : Int) (w : World) (h0 : -9223372036854775808 ≤ n) (h1 : n ≤ 9223372036854775807) :
   Calls Try.prog 59 #[.int .i64 n, .int .i64 b] w (TextIs w (putFix n b)) := by
 by_cases hn : n < 0
 · go_enter Try.func59, Try.ntmps59
   go_wp2
   go_ret
   exact ⟨ret_text (a := []) (putFix_no (by omega)).symm, Below.refl _ _⟩
 · obtain ⟨n, rfl⟩ := Int.eq_ofNat_of_zero_le (by omega : 0 ≤ n)
   by_cases hb : b < 1
   · go_enter Try.func59, Try.ntmps59
     go_wp2
     go_ret
     exact ⟨ret_text (a := []) (putFix_no (by omega)).symm, Below.refl _ _⟩
   · by_cases hb4 : 4 < b
     · go_enter Try.func59, Try.ntmps59
       go_wp2
       go_ret
       exact ⟨ret_text (a := []) (putFix_no (by omega)).symm, Below.refl _ _⟩
     · obtain ⟨b, rfl⟩ := Int.eq_ofNat_of_zero_le (by omega : 0 ≤ b)
       rw [putFix_in (by omega) (by omega)]
       exact implPutFix_in n b w h1 (by omega) (by omega)
def RdT (T : Nat) (w : World) (p : Nat) (s : ByteArray) (a : Int) : Prop := w.heap[p]? = some (.cells #[.string s, .int .i64 a] T (0, 0))
abbrev RdAt (w : World) (p : Nat) (s : ByteArray) (a : Int) : Prop := RdT 63 w p s a
theorem RdT.cells {T : Nat} {w : World} {p : Nat} {s : ByteArray} {a : Int} (h : RdT T w p s a) :
   w.cell? ⟨p, 0, none⟩ = some (.string s) ∧ w.cell? ⟨p, 1, none⟩ = some (.int .i64 a) ∧ w.frozen? ⟨p, 1, none⟩ = false := by
 unfold RdT at h
 refine ⟨?_, ?_, ?_⟩ <;> simp [World.cell?, World.frozen?, h]
theorem RdT.drewN {T : Nat} {w : World} {p : Nat} {s : ByteArray} {a : Int} (h : RdT T w p s a) (n : Nat) : RdT T (w.drewN n) p s a := h
theorem RdT.set {T : Nat} {w : World} {p : Nat} {s : ByteArray} {a : Int} (h : RdT T w p s a) (b : Int) : RdT T (w.setCell ⟨p, 1, none⟩ (.int .i64 b)) p s b := by
 unfold RdT at h ⊢
 rw [set_block _ h]
 rfl
theorem RdT.lt {T : Nat} {w : World} {p : Nat} {s : ByteArray} {a : Int} (h : RdT T w p s a) : p < w.heap.size := (Array.getElem?_eq_some_iff.1 h).1
theorem rd_new (w : World) (s : ByteArray) (a : Int) : RdAt (w.alloc (.cells #[.string s, .int .i64 a] 63)) w.heap.size s a := by
 show (w.heap.push _)[w.heap.size]? = _
 rw [Array.getElem?_push, if_pos rfl]

def BoolIs (w : World) (b : Bool) (e : Ending) (w' : World) : Prop := e = .returned (.bool b) ∧ ∃ n, w' = w.drewN n

set_option maxHeartbeats 400000 in
theorem has_yes {T : Nat} (p : Nat) (s : ByteArray) (a n : Nat) (w : World) (h : RdT T w p s a) (hs : s.size ≤ maxLen) (hn : a + n ≤ s.size) :
   Calls Try.prog 84 #[.pointer (some ⟨p, 0, none⟩), .int .i64 n] w (BoolIs w true) := by
 unfold maxLen at hs
 obtain ⟨c0, c1, f1⟩ := h.cells
 clear h
 have d1 : decide ((0 : Int) ≤ (n : Int)) = true := by simp
 have d2 : decide ((0 : Int) ≤ (a : Int)) = true := by simp
 have d3 : decide (a ≤ s.size) = true := by simp; omega
 go_enter Try.func84, Try.ntmps84
 go_wp2
 go_quiet (fail)
 go_wp2
 go_ret
 exact ⟨ret_bool (by simp; omega), _, rfl⟩

set_option maxHeartbeats 400000 in
theorem has_no {T : Nat} (p : Nat) (s : ByteArray) (a n : Int) (w : World) (h : RdT T w p s a) (hs : s.size ≤ maxLen) (hn : n < 0 ∨ a < 0 ∨ s.size < a ∨ s.size - a < n) :
   Calls Try.prog 84 #[.pointer (some ⟨p, 0, none⟩), .int .i64 n] w (BoolIs w false) := by
 unfold maxLen at hs
 obtain ⟨c0, c1, f1⟩ := h.cells
 clear h
 have HN := Lib.hid hn
 clear hn
 by_cases d1 : 0 ≤ n
 · have d1' : decide (0 ≤ n) = true := by simpa using d1
   by_cases d2 : 0 ≤ a
   · have d2' : decide (0 ≤ a) = true := by simpa using d2
     by_cases d3 : a ≤ s.size
     · have d3' : decide (a ≤ s.size) = true := by simpa using d3
       go_enter Try.func84, Try.ntmps84
       go_wp2
       go_quiet (fail)
       go_wp2
       go_ret
       exact ⟨ret_bool (by have := HN.out; simp; omega), _, rfl⟩
     · have d3' : decide (a ≤ s.size) = false := by simpa using d3
       go_enter Try.func84, Try.ntmps84
       go_wp2
       go_quiet (fail)
       go_wp2
       go_ret
       exact ⟨rfl, _, rfl⟩
   · have d2' : decide (0 ≤ a) = false := by simpa using d2
     go_enter Try.func84, Try.ntmps84
     go_wp2
     go_quiet (fail)
     go_wp2
     go_ret
     exact ⟨rfl, _, rfl⟩
 · have d1' : decide (0 ≤ n) = false := by simpa using d1
   go_enter Try.func84, Try.ntmps84
   go_wp2
   go_quiet (fail)
   go_wp2
   go_ret
   exact ⟨rfl, _, rfl⟩

def Taken (T : Nat) (w : World) (p : Nat) (s : ByteArray) (a n : Nat) (e : Ending) (w' : World) : Prop :=
 e = .returned (.tuple #[.string (s.extract a (a + n)), .bool true]) ∧ RdT T w' p s (a + n : Nat) ∧ w.grownBy w' (some p)

set_option maxHeartbeats 400000 in
theorem take_yes {T : Nat} (p : Nat) (s : ByteArray) (a n : Nat) (w : World) (h : RdT T w p s a) (hs : s.size ≤ maxLen) (hn : a + n ≤ s.size) :
   Calls Try.prog 66 #[.pointer (some ⟨p, 0, none⟩), .int .i64 n] w (Taken T w p s a n) := by
 have HH := Lib.hid h
 have HS := Lib.hid hs
 unfold maxLen at hs
 obtain ⟨c0, c1, f1⟩ := h.cells
 clear h
 go_enter Try.func66, Try.ntmps66
 go_wp2_with fail
 refine (has_yes p s a n _ HH.out HS.out hn).mono ?_
 rintro e w1 ⟨rfl, m, rfl⟩
 have i1 : (a : Int) + (n : Int) ≤ (s.size : Int) := by omega
 go_wp2
 go_quiet (fail)
 go_wp2
 go_ret2
 refine ⟨rfl, ?_, (grown_drewN _ _ _).trans (grown_set _ _ _ _)⟩
 have e : ((a + n : Nat) : Int) = (a : Int) + (n : Int) := by omega
 rw [e]
 exact (HH.out.drewN _).set _

set_option maxHeartbeats 400000 in
theorem take_no {T : Nat} (p : Nat) (s : ByteArray) (a n : Int) (w : World) (h : RdT T w p s a) (hs : s.size ≤ maxLen) (hn : n < 0 ∨ a < 0 ∨ s.size < a ∨ s.size - a < n) :
   Calls Try.prog 66 #[.pointer (some ⟨p, 0, none⟩), .int .i64 n] w fun e w' => e = .returned (.tuple #[.string ⟨#[]⟩, .bool false]) ∧ ∃ n, w' = w.drewN n := by
 have HH := Lib.hid h
 have HN := Lib.hid hn
 clear h hn
 go_enter Try.func66, Try.ntmps66
 go_wp2_with fail
 refine (has_no p s a n _ HH.out hs HN.out).mono ?_
 rintro e w1 ⟨rfl, m, rfl⟩
 go_wp2
 go_ret2
 exact ⟨rfl, _, rfl⟩
def hstep (x : Nat) (c : UInt8) : Nat := ((x ^^^ c.toNat) * 16777619) % 4294967296
def hashF (x : Nat) (l : List UInt8) : Nat := l.foldl hstep x
def hash (l : List UInt8) : Nat := hashF 2166136261 l
theorem hashF_snoc (x : Nat) (l : List UInt8) (c : UInt8) : hashF x (l ++ [c]) = hstep (hashF x l) c := by unfold hashF; rw [List.foldl_append, List.foldl_cons, List.foldl_nil]
theorem hstep_lt (x : Nat) (c : UInt8) : hstep x c < 4294967296 := by unfold hstep; omega
theorem hashF_cons (x : Nat) (c : UInt8) (l : List UInt8) : hashF x (c :: l) = hashF (hstep x c) l := by unfold hashF; rw [List.foldl_cons]
theorem hashF_lt (l : List UInt8) : ∀ {x : Nat}, x < 4294967296 → hashF x l < 4294967296 := by
 induction l with
 | nil => intro x h; exact h
 | cons c l ih => intro x h; rw [hashF_cons]; exact ih (hstep_lt x c)
theorem hash_lt (l : List UInt8) : hash l < 4294967296 := by unfold hash; exact hashF_lt l (by omega)
def dlt (h : Nat) : Nat := h / 131072 ||| (h * 32768) % 4294967296
theorem dlt_lt {h : Nat} (hh : h < 4294967296) : dlt h < 4294967296 := by
 unfold dlt
 have h1 : h / 131072 < 2 ^ 32 := by omega
 have h2 : (h * 32768) % 4294967296 < 2 ^ 32 := by omega
 exact Nat.or_lt_two_pow h1 h2
def stand (h : Nat) (j : Nat) : Nat := (h + j * dlt h) % 4294967296
theorem stand_zero {h : Nat} (hh : h < 4294967296) : stand h 0 = h := by unfold stand; simp; omega
theorem stand_next (h j : Nat) : stand h (j + 1) = (stand h j + dlt h) % 4294967296 := by unfold stand; rw [Nat.succ_mul]; omega
theorem stand_lt (h j : Nat) : stand h j < 4294967296 := by unfold stand; omega
def six (h bits n : Nat) : List Nat := (List.range n).map (fun j => stand h j % bits)
theorem six_snoc (h bits n : Nat) : six h bits (n + 1) = six h bits n ++ [stand h n % bits] := by unfold six; rw [List.range_succ, List.map_append]; rfl
theorem six_len (h bits n : Nat) : (six h bits n).length = n := by unfold six; simp
def probes (l : List UInt8) (bits : Int) : List Nat := if 1 ≤ bits ∧ bits ≤ 100000 then six (hash l) bits.toNat 6 else []
theorem probes_yes {l : List UInt8} {b : Nat} (h1 : 1 ≤ b) (h2 : b ≤ 100000) : probes l (b : Int) = six (hash l) b 6 := by unfold probes; rw [if_pos (by omega), Int.toNat_natCast]
theorem probes_no {l : List UInt8} {bits : Int} (h : bits < 1 ∨ 100000 < bits) : probes l bits = [] := by unfold probes; rw [if_neg (by omega)]
theorem six_lt {h bits n p : Nat} (h1 : 1 ≤ bits) (hp : p ∈ six h bits n) : p < bits := by
 unfold six at hp
 obtain ⟨j, _, rfl⟩ := List.mem_map.1 hp
 exact Nat.mod_lt _ (by omega)

def bitAt (bs : List UInt8) (b : Nat) : Bool := (bs.getD (b / 8) 0).toNat.testBit (b % 8)
def setBit (bs : List UInt8) (p : Nat) : List UInt8 := bs.set (p / 8) (UInt8.ofNat ((bs.getD (p / 8) 0).toNat ||| 2 ^ (p % 8)))
theorem setBit_len (bs : List UInt8) (p : Nat) : (setBit bs p).length = bs.length := by unfold setBit; simp
theorem or_pow (x : UInt8) (k : Nat) (h : k < 8) : (UInt8.ofNat (x.toNat ||| 2 ^ k)).toNat = x.toNat ||| 2 ^ k := by
 have h1 : x.toNat < 2 ^ 8 := by have := x.toNat_lt; omega
 have h2 : 2 ^ k < 2 ^ 8 := Nat.pow_lt_pow_right (by omega) h
 have h3 : x.toNat ||| 2 ^ k < 2 ^ 8 := Nat.or_lt_two_pow h1 h2
 rw [UInt8.toNat_ofNat']
 exact Nat.mod_eq_of_lt h3
theorem set_bit {bs : List UInt8} {p : Nat} (h : p / 8 < bs.length) (b : Nat) : bitAt (setBit bs p) b = (bitAt bs b || decide (b = p)) := by
 unfold bitAt setBit
 rw [List.getD_eq_getElem?_getD, List.getElem?_set]
 by_cases e : p / 8 = b / 8
 · rw [if_pos e, if_pos h, Option.getD_some, or_pow _ _ (by omega), Nat.testBit_or, e]
   congr 1
   rw [Nat.testBit_two_pow, decide_eq_decide]
   omega
 · rw [if_neg e, ← List.getD_eq_getElem?_getD]
   have : decide (b = p) = false := by simp; omega
   rw [this, Bool.or_false]
def setAll (bs : List UInt8) (ps : List Nat) : List UInt8 := ps.foldl setBit bs
theorem setAll_len (ps : List Nat) : ∀ bs : List UInt8, (setAll bs ps).length = bs.length := by
 induction ps with
 | nil => intro bs; rfl
 | cons p ps ih => intro bs; show (setAll (setBit bs p) ps).length = _; rw [ih, setBit_len]
theorem setAll_snoc (bs : List UInt8) (ps : List Nat) (p : Nat) : setAll bs (ps ++ [p]) = setBit (setAll bs ps) p := by unfold setAll; simp
theorem setAll_bit (ps : List Nat) : ∀ bs : List UInt8, (∀ p ∈ ps, p / 8 < bs.length) → ∀ b, bitAt (setAll bs ps) b = (bitAt bs b || ps.contains b) := by
 induction ps with
 | nil => intro bs _ b; simp [setAll]
 | cons p ps ih =>
   intro bs h b
   show bitAt (setAll (setBit bs p) ps) b = _
   rw [ih _ (fun q hq => by rw [setBit_len]; exact h q (by simp [hq])), set_bit (h p (by simp)), Bool.or_assoc]
   congr 1
def fsize (n : Nat) : Nat := if n = 0 then 1 else (10 * n + 7) / 8
theorem fsize_pos (n : Nat) : 1 ≤ fsize n := by unfold fsize; split <;> omega
theorem fsize_le {n : Nat} (h : n ≤ 200) : fsize n ≤ 250 := by unfold fsize; split <;> omega
def fillF (m : Nat) (bs : List UInt8) (keys : List (List UInt8)) : List UInt8 := keys.foldl (fun bs k => setAll bs (six (hash k) m 6)) bs
def filterB (keys : List (List UInt8)) : List UInt8 := if keys.length ≤ 200 then fillF (8 * fsize keys.length) (List.replicate (fsize keys.length) 0) keys else []
theorem fillF_snoc (m : Nat) (bs : List UInt8) (keys : List (List UInt8)) (k : List UInt8) : fillF m bs (keys ++ [k]) = setAll (fillF m bs keys) (six (hash k) m 6) := by unfold fillF; simp
theorem fillF_len (m : Nat) (keys : List (List UInt8)) : ∀ bs, (fillF m bs keys).length = bs.length := by
 induction keys with
 | nil => intro bs; rfl
 | cons k ks ih => intro bs; show (fillF m (setAll bs _) ks).length = _; rw [ih, setAll_len]
theorem fillF_bit (m : Nat) (hm : 1 ≤ m) (keys : List (List UInt8)) : ∀ bs : List UInt8, 8 * bs.length = m → ∀ b, bitAt (fillF m bs keys) b = (bitAt bs b || keys.any (fun k => (six (hash k) m 6).contains b)) := by
 induction keys with
 | nil => intro bs _ b; simp [fillF]
 | cons k ks ih =>
   intro bs hb b
   show bitAt (fillF m (setAll bs (six (hash k) m 6)) ks) b = _
   rw [ih _ (by rw [setAll_len]; exact hb), setAll_bit _ _ (fun p hp => by have := six_lt hm hp; omega), Bool.or_assoc, List.any_cons]
theorem zero_bit (n b : Nat) : bitAt (List.replicate n 0) b = false := by
 unfold bitAt
 rw [List.getD_eq_getElem?_getD, List.getElem?_replicate]
 split <;> simp
theorem filter_len {keys : List (List UInt8)} (h : keys.length ≤ 200) : (filterB keys).length = fsize keys.length := by unfold filterB; rw [if_pos h, fillF_len, List.length_replicate]
theorem filter_no {keys : List (List UInt8)} (h : 200 < keys.length) : filterB keys = [] := by unfold filterB; rw [if_neg (by omega)]
theorem filter_bit {keys : List (List UInt8)} (h : keys.length ≤ 200) (b : Nat) : bitAt (filterB keys) b = keys.any (fun k => (six (hash k) (8 * fsize keys.length) 6).contains b) := by
 unfold filterB
 have := fsize_pos keys.length
 rw [if_pos h, fillF_bit _ (by omega) _ _ (by rw [List.length_replicate]), zero_bit, Bool.false_or]
def mayHave (f key : List UInt8) : Bool := !(probes key (8 * f.length : Nat)).isEmpty && (probes key (8 * f.length : Nat)).all (bitAt f)
theorem has_keys {keys : List (List UInt8)} (h : keys.length ≤ 200) {k : List UInt8} (hk : k ∈ keys) : mayHave (filterB keys) k = true := by
 unfold mayHave
 have h1 := fsize_pos keys.length
 have h2 := fsize_le h
 rw [filter_len h, probes_yes (by omega) (by omega), Bool.and_eq_true]
 refine ⟨rfl, List.all_eq_true.2 (fun p hp => ?_)⟩
 rw [filter_bit h, List.any_eq_true]
 exact ⟨k, hk, List.contains_iff_mem.2 hp⟩
def mergeC : List Cel → List Cel → List Cel
 | [], ys => ys
 | x :: xs, [] => x :: xs
 | x :: xs, y :: ys => if celBefore x y = true then x :: mergeC xs (y :: ys) else if celBefore y x = true then y :: mergeC (x :: xs) ys else x :: mergeC xs ys
termination_by xs ys => xs.length + ys.length
def join (xs ys : List Cel) : List Cel := if cellsOk xs = true ∧ cellsOk ys = true then mergeC xs ys else []

theorem merge_nil (ys : List Cel) : mergeC [] ys = ys := by rw [mergeC]
theorem merge_end (xs : List Cel) : mergeC xs [] = xs := by cases xs <;> rw [mergeC]
theorem merge_first {x y : Cel} (xs ys : List Cel) (h : celBefore x y = true) : mergeC (x :: xs) (y :: ys) = x :: mergeC xs (y :: ys) := by rw [mergeC, if_pos h]
theorem merge_second {x y : Cel} (xs ys : List Cel) (h : celBefore x y = false) (h2 : celBefore y x = true) : mergeC (x :: xs) (y :: ys) = y :: mergeC (x :: xs) ys := by rw [mergeC, if_neg (by simp [h]), if_pos h2]
theorem merge_both {x y : Cel} (xs ys : List Cel) (h : celBefore x y = false) (h2 : celBefore y x = false) : mergeC (x :: xs) (y :: ys) = x :: mergeC xs ys := by rw [mergeC, if_neg (by simp [h]), if_neg (by simp [h2])]

theorem cellsOk_iff (xs : List Cel) : cellsOk xs = true ↔ (∀ x ∈ xs, cellOk x = true) ∧ xs.Pairwise (fun x y => Op.bytesLess (celKey x) (celKey y) = true) := by
 constructor
 · intro h
   refine ⟨fun x hx => ?_, List.pairwise_iff_getElem.2 (fun i j hi hj hij => ?_)⟩
   · obtain ⟨j, hj⟩ := List.mem_iff_getElem?.1 hx
     exact cells_ok h hj
   · have := cells_rise h (i := i) (x := xs[i]) (List.getElem?_eq_getElem hi) (j - i - 1) (y := xs[j]) (by rw [show i + (j - i - 1) + 1 = j by omega]; exact List.getElem?_eq_getElem hj)
     exact this
 · rintro ⟨h1, h2⟩
   refine cellsOk_yes (fun j hj => ?_)
   have hx : xs[j]? = some xs[j] := List.getElem?_eq_getElem hj
   cases j with
   | zero => rw [okAt_zero hx]; exact h1 _ (List.getElem_mem hj)
   | succ j =>
     have hy : xs[j]? = some (xs[j]'(by omega)) := List.getElem?_eq_getElem (by omega)
     rw [okAt_succ hx hy, h1 _ (List.getElem_mem hj), before_key (h1 _ (List.getElem_mem (by omega))) (h1 _ (List.getElem_mem hj)), ← ahead_less]
     exact List.pairwise_iff_getElem.1 h2 j (j + 1) (by omega) hj (by omega)
theorem key_three {x y : Cel} (hx : cellOk x = true) (hy : cellOk y = true) (h : celBefore x y = false) (h2 : celBefore y x = false) : celKey x = celKey y := by
 rw [before_key hx hy, ← ahead_less] at h
 rw [before_key hy hx, ← ahead_less] at h2
 by_cases e : celKey x = celKey y
 · exact e
 · rw [less_total _ _ e h] at h2
   cases h2
theorem merge_mem : ∀ (xs ys : List Cel) (z : Cel), z ∈ mergeC xs ys → z ∈ xs ∨ z ∈ ys
 | [], ys, z, h => by rw [merge_nil] at h; exact .inr h
 | x :: xs, [], z, h => by rw [merge_end] at h; exact .inl h
 | x :: xs, y :: ys, z, h => by
   cases h1 : celBefore x y with
   | true =>
     rw [merge_first xs ys h1] at h
     rcases List.mem_cons.1 h with rfl | h
     · exact .inl (by simp)
     · rcases merge_mem xs (y :: ys) z h with h | h
       · exact .inl (by simp [h])
       · exact .inr h
   | false =>
     cases h2 : celBefore y x with
     | true =>
       rw [merge_second xs ys h1 h2] at h
       rcases List.mem_cons.1 h with rfl | h
       · exact .inr (by simp)
       · rcases merge_mem (x :: xs) ys z h with h | h
         · exact .inl h
         · exact .inr (by simp [h])
     | false =>
       rw [merge_both xs ys h1 h2] at h
       rcases List.mem_cons.1 h with rfl | h
       · exact .inl (by simp)
       · rcases merge_mem xs ys z h with h | h
         · exact .inl (by simp [h])
         · exact .inr (by simp [h])
termination_by xs ys => xs.length + ys.length
theorem merge_len : ∀ (xs ys : List Cel), (mergeC xs ys).length ≤ xs.length + ys.length
 | [], ys => by rw [merge_nil]; simp
 | x :: xs, [] => by rw [merge_end]; simp
 | x :: xs, y :: ys => by
   cases h1 : celBefore x y with
   | true =>
     rw [merge_first xs ys h1]
     have := merge_len xs (y :: ys)
     simp only [List.length_cons] at this ⊢
     omega
   | false =>
     cases h2 : celBefore y x with
     | true =>
       rw [merge_second xs ys h1 h2]
       have := merge_len (x :: xs) ys
       simp only [List.length_cons] at this ⊢
       omega
     | false =>
       rw [merge_both xs ys h1 h2]
       have := merge_len xs ys
       simp only [List.length_cons] at this ⊢
       omega
termination_by xs ys => xs.length + ys.length
theorem before_less {x y : Cel} (hx : cellOk x = true) (hy : cellOk y = true) (h : celBefore x y = true) : Op.bytesLess (celKey x) (celKey y) = true := by
 rw [before_key hx hy, ← ahead_less] at h
 exact h
theorem merge_rise : ∀ (xs ys : List Cel), (∀ x ∈ xs, cellOk x = true) → (∀ y ∈ ys, cellOk y = true) → xs.Pairwise (fun x y => Op.bytesLess (celKey x) (celKey y) = true) → ys.Pairwise (fun x y => Op.bytesLess (celKey x) (celKey y) = true) → (mergeC xs ys).Pairwise (fun x y => Op.bytesLess (celKey x) (celKey y) = true)
 | [], ys, _, _, _, h => by rw [merge_nil]; exact h
 | x :: xs, [], _, _, h, _ => by rw [merge_end]; exact h
 | x :: xs, y :: ys, hx, hy, px, py => by
   have ox : cellOk x = true := hx x (by simp)
   have oy : cellOk y = true := hy y (by simp)
   obtain ⟨p1, p2⟩ := List.pairwise_cons.1 px
   obtain ⟨q1, q2⟩ := List.pairwise_cons.1 py
   have hx' : ∀ z ∈ xs, cellOk z = true := fun z hz => hx z (by simp [hz])
   have hy' : ∀ z ∈ ys, cellOk z = true := fun z hz => hy z (by simp [hz])
   cases h1 : celBefore x y with
   | true =>
     have k := before_less ox oy h1
     rw [merge_first xs ys h1]
     refine List.pairwise_cons.2 ⟨fun z hz => ?_, merge_rise xs (y :: ys) hx' hy p2 py⟩
     rcases merge_mem _ _ z hz with h | h
     · exact p1 z h
     · rcases List.mem_cons.1 h with rfl | h
       · exact k
       · exact less_trans _ _ _ k (q1 z h)
   | false =>
     cases h2 : celBefore y x with
     | true =>
       have k := before_less oy ox h2
       rw [merge_second xs ys h1 h2]
       refine List.pairwise_cons.2 ⟨fun z hz => ?_, merge_rise (x :: xs) ys hx hy' px q2⟩
       rcases merge_mem _ _ z hz with h | h
       · rcases List.mem_cons.1 h with rfl | h
         · exact k
         · exact less_trans _ _ _ k (p1 z h)
       · exact q1 z h
     | false =>
       have k := key_three ox oy h1 h2
       rw [merge_both xs ys h1 h2]
       refine List.pairwise_cons.2 ⟨fun z hz => ?_, merge_rise xs ys hx' hy' p2 q2⟩
       rcases merge_mem _ _ z hz with h | h
       · exact p1 z h
       · rw [k]; exact q1 z h
termination_by xs ys => xs.length + ys.length
theorem merge_ok {xs ys : List Cel} (hx : cellsOk xs = true) (hy : cellsOk ys = true) : cellsOk (mergeC xs ys) = true := by
 obtain ⟨a1, a2⟩ := (cellsOk_iff xs).1 hx
 obtain ⟨b1, b2⟩ := (cellsOk_iff ys).1 hy
 refine (cellsOk_iff _).2 ⟨fun z hz => ?_, merge_rise xs ys a1 b1 a2 b2⟩
 rcases merge_mem xs ys z hz with h | h
 · exact a1 z h
 · exact b1 z h
theorem join_yes {xs ys : List Cel} (hx : cellsOk xs = true) (hy : cellsOk ys = true) : join xs ys = mergeC xs ys := if_pos ⟨hx, hy⟩
theorem join_no {xs ys : List Cel} (h : cellsOk xs = false ∨ cellsOk ys = false) : join xs ys = [] := by
 unfold join
 rw [if_neg]
 rintro ⟨h1, h2⟩
 rcases h with h | h
 · rw [h] at h1; cases h1
 · rw [h] at h2; cases h2
theorem cells_one {x : Cel} (h : cellOk x = true) : cellsOk [x] = true := (cellsOk_iff _).2 ⟨fun z hz => by rw [List.mem_singleton.1 hz]; exact h, by simp⟩
theorem takeS_at {P : Program} {ops : Array Oper} {Q : Exit → Act → World → Prop} {S : World → Prop} {md : Region.Mode} {i : Nat} {oi : Oper} {d : Option Nat} {v : Value} {fuel : Nat} {listed : Array Bool} {a : Act} {w : World} (hi : ops[i]? = some oi) (hd : oi.dst = d)
   (hs : Region.noSelect ops = true) (hf : Region.free md ops listed i = true) (hr : (Region.ready md ops listed).contains i = true)
   (hQ : ∀ c a w, Q (.panic c) (a.put oi.dst v) w → Q (.panic c) a w) (hw : Region.wanted oi (yielded ops a.tmps) = true) (hy : ∀ w, S w → (execOp a.eval oi).run P w = .ok (.value v) w) (hS : S w)
   (h : wpAnyH P md ops Q S fuel (listed.setIfInBounds i true) (a.put d v) w) : wpAnyH P md ops Q S (fuel + 1) listed a w := by
 subst hd
 exact wpAnyH_take hi hs hf hr hQ (Or.inl ⟨hw, hy⟩) hS h
theorem skipS_at {P : Program} {ops : Array Oper} {Q : Exit → Act → World → Prop} {S : World → Prop} {md : Region.Mode} {i : Nat} {oi : Oper} {d : Option Nat} {fuel : Nat} {listed : Array Bool} {a : Act} {w : World} (hi : ops[i]? = some oi) (hd : oi.dst = d)
   (hs : Region.noSelect ops = true) (hf : Region.free md ops listed i = true) (hr : (Region.ready md ops listed).contains i = true)
   (hQ : ∀ c a w, Q (.panic c) (a.put oi.dst undef) w → Q (.panic c) a w) (hw : Region.wanted oi (yielded ops a.tmps) = false) (hS : S w)
   (h : wpAnyH P md ops Q S fuel (listed.setIfInBounds i true) (a.put d undef) w) : wpAnyH P md ops Q S (fuel + 1) listed a w := by
 subst hd
 exact wpAnyH_take hi hs hf hr hQ (Or.inr ⟨hw, rfl⟩) hS h
theorem tk {P : Program} {ops : Array Oper} {Q : Exit → Act → World → Prop} {S : World → Prop} {md : Region.Mode} {oi : Oper} {fuel : Nat} {listed : Array Bool} {a : Act} {w : World} (i : Nat) (d : Option Nat) (v : Value)
   (hy : ∀ w, S w → (execOp a.eval oi).run P w = .ok (.value v) w) (hS : S w) (h : wpAnyH P md ops Q S fuel (listed.setIfInBounds i true) (a.put d v) w) (hi : ops[i]? = some oi := by rfl) (hd : oi.dst = d := by rfl)
   (hs : Region.noSelect ops = true := by kernel_rfl) (hf : Region.free md ops listed i = true := by kernel_rfl) (hr : (Region.ready md ops listed).contains i = true := by kernel_rfl)
   (hQ : ∀ c a w, Q (.panic c) (a.put oi.dst v) w → Q (.panic c) a w := by exact fun _ _ _ h => h) (hw : Region.wanted oi (yielded ops a.tmps) = true := by rfl) : wpAnyH P md ops Q S (fuel + 1) listed a w :=
 takeS_at hi hd hs hf hr hQ hw hy hS h
theorem sk {P : Program} {ops : Array Oper} {Q : Exit → Act → World → Prop} {S : World → Prop} {md : Region.Mode} {oi : Oper} {fuel : Nat} {listed : Array Bool} {a : Act} {w : World} (i : Nat) (d : Option Nat)
   (hS : S w) (h : wpAnyH P md ops Q S fuel (listed.setIfInBounds i true) (a.put d undef) w) (hi : ops[i]? = some oi := by rfl) (hd : oi.dst = d := by rfl)
   (hs : Region.noSelect ops = true := by kernel_rfl) (hf : Region.free md ops listed i = true := by kernel_rfl) (hr : (Region.ready md ops listed).contains i = true := by kernel_rfl)
   (hQ : ∀ c a w, Q (.panic c) (a.put oi.dst undef) w → Q (.panic c) a w := by exact fun _ _ _ h => h) (hw : Region.wanted oi (yielded ops a.tmps) = false := by rfl) : wpAnyH P md ops Q S (fuel + 1) listed a w :=
 skipS_at hi hd hs hf hr hQ hw hS h
theorem sA {α : Type _} (l : List α) (i : Nat) (a : α) : l.toArray.setIfInBounds i a = (l.set i a).toArray := List.setIfInBounds_toArray l i a
theorem sB {α : Type _} (x y : α) (l : List α) : (x :: l).set 0 y = y :: l := rfl
theorem sC {α : Type _} (x y : α) (l : List α) (i : Nat) : (x :: l).set (i + 1) y = x :: l.set i y := rfl
theorem block_ok {xs : List Cel} {every : Int} (h : putBlock xs every ≠ []) : ∃ e : Nat, every = e ∧ 1 ≤ e ∧ e ≤ 16 ∧ xs.length ≤ 50 ∧ cellsOk xs = true ∧ putBlock xs every = block xs e := by
 unfold putBlock at h ⊢
 cases h1 : blockOk xs every
 · rw [if_neg (by simp [h1])] at h
   exact absurd rfl h
 · unfold blockOk at h1
   simp only [Bool.and_eq_true, decide_eq_true_eq] at h1
   obtain ⟨⟨⟨a1, a2⟩, a3⟩, a4⟩ := h1
   exact ⟨every.toNat, by omega, by omega, by omega, a1, a2, by rw [if_pos rfl]⟩
theorem all_ok {xs : List Cel} (h : cellsOk xs = true) : ∀ x ∈ xs, cellOk x = true := fun x hm => by obtain ⟨j, hj⟩ := List.mem_iff_getElem?.1 hm; exact cells_ok h hj
theorem ok_small {x : Cel} (h : cellOk x = true) : x.row.size ≤ 16 ∧ x.col.size ≤ 16 ∧ x.value.size ≤ 30 := by
 unfold cellOk at h
 simp only [Bool.and_eq_true, decide_eq_true_eq] at h
 obtain ⟨⟨⟨⟨h1, h2⟩, h3⟩, h4⟩, h5⟩ := h
 have e1 : x.row.data.toList.length = x.row.size := by simp
 have e2 : x.col.data.toList.length = x.col.size := by simp
 have := (name_parts h1).2.2
 have := (name_parts h2).2.2
 omega
theorem fit_ok {xs : List Cel} (h : cellsOk xs = true) : Fit xs := fun y hy => by
 have := ok_small (all_ok h y hy)
 unfold maxLen
 omega
def TellsB (w : World) (b : Bool) (e : Ending) (w' : World) : Prop := e = .returned (.bool b) ∧ ∃ n, w' = w.drewN n

theorem byte_get (s : ByteArray) (k : Nat) (h : k < s.size) : s.data.toList[k]? = some (s[k]'h) := byte_at s k h

set_option maxHeartbeats 1000000 in
theorem implName (s : ByteArray) (hs : s.size ≤ maxLen) (w : World) : Calls Try.prog 71 #[.string s] w (TellsB w (nameOk s.data.toList)) := by
 unfold maxLen at hs
 have hl : s.data.toList.length = s.size := by simp
 by_cases h1 : s.size < 1
 · have HR := Lib.hid (name_len (l := s.data.toList) (by rw [hl]; omega))
   clear hl
   go_enter Try.func71, Try.ntmps71
   go_wp2
   go_ret
   exact ⟨ret_bool HR.out.symm, 0, rfl⟩
 by_cases h2 : 16 < s.size
 · have HR := Lib.hid (name_len (l := s.data.toList) (by rw [hl]; omega))
   clear hl
   go_enter Try.func71, Try.ntmps71
   go_wp2
   go_ret
   exact ⟨ret_bool HR.out.symm, 0, rfl⟩
 have HL := Lib.hid hl
 clear hl
 go_enter Try.func71, Try.ntmps71
 go_wp2_with fail
 go_loopw [14] (fun i wr => ∃ k : Nat, k ≤ s.size ∧ i = .int .i64 k ∧ Hid (∀ j, j < k → ∃ c, s.data.toList[j]? = some c ∧ sign c = true) ∧ ∃ n, wr = w.drewN n) (fun i _ => s.size - (intOf i).toNat)
 case atStart => exact ⟨0, Nat.zero_le _, rfl, fun j hj => absurd hj (by omega), 0, rfl⟩
 case round =>
   obtain ⟨k, hk, rfl, HJ, n, rfl⟩ := hrel
   by_cases hlt : k < s.size
   · have i1 : (k : Int) < (s.size : Int) := by omega
     have HB := Lib.hid (byte_get s k hlt)
     by_cases hc1 : s[k].toNat < 33
     · have HR := Lib.hid (name_bad HB.out (sign_no (.inl hc1)))
       go_wp2
       go_ret
       exact ⟨ret_bool HR.out.symm, _, rfl⟩
     by_cases hc2 : 126 < s[k].toNat
     · have HR := Lib.hid (name_bad HB.out (sign_no (.inr hc2)))
       go_wp2
       go_ret
       exact ⟨ret_bool HR.out.symm, _, rfl⟩
     have HS := Lib.hid (sign_yes (c := s[k]) (by omega) (by omega))
     go_wp2
     go_roundw
     case rel =>
       refine ⟨k + 1, by omega, by go_num, ?_, _, rfl⟩
       intro j hj
       by_cases hj2 : j < k
       · exact HJ.out j hj2
       · obtain rfl : j = k := by omega
         exact ⟨_, HB.out, HS.out⟩
     case measure => simp [intOf]; omega
   · obtain rfl : k = s.size := by omega
     have HR := Lib.hid (name_good (l := s.data.toList) (fun j hj => HJ.out j (by rw [HL.out] at hj; exact hj)) (by rw [HL.out]; omega) (by rw [HL.out]; omega))
     go_wp2
     go_ret
     exact ⟨ret_bool HR.out.symm, _, rfl⟩

set_option maxHeartbeats 1000000 in
theorem specName (s : ByteArray) (hs : s.size ≤ maxLen) (w : World) : Calls Try.prog 64 #[.string s] w (TellsB w (nameOk s.data.toList)) := by
 unfold maxLen at hs
 have hl : s.data.toList.length = s.size := by simp
 have HL := Lib.hid hl
 clear hl
 go_enter Try.func64, Try.ntmps64
 go_wp2_with fail
 go_loopw [3] (fun i wr => ∃ k : Nat, k ≤ s.size ∧ i = .int .i64 k ∧ Hid (∀ j, j < k → ∃ c, s.data.toList[j]? = some c ∧ sign c = true) ∧ ∃ n, wr = w.drewN n) (fun i _ => s.size - (intOf i).toNat)
 case atStart => exact ⟨0, Nat.zero_le _, rfl, fun j hj => absurd hj (by omega), 0, rfl⟩
 case round =>
   obtain ⟨k, hk, rfl, HJ, n, rfl⟩ := hrel
   by_cases hlt : k < s.size
   · have i1 : (k : Int) < (s.size : Int) := by omega
     have HB := Lib.hid (byte_get s k hlt)
     have hc0 := s[k].toNat_lt
     by_cases hc : s[k].toNat < 33 ∨ 126 < s[k].toNat
     · have HR := Lib.hid (name_bad HB.out (sign_no hc))
       have HC := Lib.hid hc
       clear hc
       go_wp2_with fail
       refine (specIn_no _ 33 126 _ (by have := HC.out; omega)).mono ?_
       rintro e w1 ⟨rfl, rfl⟩
       go_wp2
       go_ret
       exact ⟨ret_bool HR.out.symm, _, rfl⟩
     have HS := Lib.hid (sign_yes (c := s[k]) (by omega) (by omega))
     have HC := Lib.hid hc
     clear hc
     go_wp2_with fail
     refine (specIn_yes _ 33 126 _ (by have := HC.out; omega) (by have := HC.out; omega)).mono ?_
     rintro e w1 ⟨rfl, rfl⟩
     go_wp2
     go_roundw
     case rel =>
       refine ⟨k + 1, by omega, by go_num, ?_, _, rfl⟩
       intro j hj
       by_cases hj2 : j < k
       · exact HJ.out j hj2
       · obtain rfl : j = k := by omega
         exact ⟨_, HB.out, HS.out⟩
     case measure => simp [intOf]; omega
   · obtain rfl : k = s.size := by omega
     by_cases h12 : s.size < 1 ∨ 16 < s.size
     · have HR := Lib.hid (name_len (l := s.data.toList) (by rw [HL.out]; omega))
       have HC := Lib.hid h12
       clear h12
       go_wp2_with fail
       refine (specIn_no _ 1 16 _ (by have := HC.out; omega)).mono ?_
       rintro e w1 ⟨rfl, rfl⟩
       go_wp2
       go_ret
       exact ⟨ret_bool HR.out.symm, _, rfl⟩
     · have HR := Lib.hid (name_good (l := s.data.toList) (fun j hj => HJ.out j (by rw [HL.out] at hj; exact hj)) (by rw [HL.out]; omega) (by rw [HL.out]; omega))
       go_wp2_with fail
       refine (specIn_yes _ 1 16 _ (by omega) (by omega)).mono ?_
       rintro e w1 ⟨rfl, rfl⟩
       go_wp2
       go_ret
       exact ⟨ret_bool HR.out.symm, _, rfl⟩

theorem implTime (t : Int) (w : World) : Calls Try.prog 72 #[.int .i64 t] w fun e w' => e = .returned (.bool (timeOk t)) ∧ w = w' := by
 by_cases h1 : t < 0
 · have HR := Lib.hid (time_no (t := t) (.inl h1))
   go_enter Try.func72, Try.ntmps72
   go_wp2
   go_ret
   exact ⟨ret_bool HR.out.symm, rfl⟩
 by_cases h2 : 1000000000 < t
 · have HR := Lib.hid (time_no (t := t) (.inr h2))
   go_enter Try.func72, Try.ntmps72
   go_wp2
   go_ret
   exact ⟨ret_bool (by rw [HR.out]; exact decide_eq_false (by omega)), rfl⟩
 have HR := Lib.hid (time_yes (t := t) (by omega) (by omega))
 go_enter Try.func72, Try.ntmps72
 go_wp2
 go_ret
 exact ⟨ret_bool HR.out.symm, rfl⟩
theorem specTime (t : Int) (w : World) : Calls Try.prog 38 #[.int .i64 t, .int .i64 0, .int .i64 1000000000] w fun e w' => e = .returned (.bool (timeOk t)) ∧ w = w' := by
 by_cases h : t < 0 ∨ 1000000000 < t
 · rw [time_no h]
   exact specIn_no t 0 1000000000 w h
 · rw [time_yes (by omega) (by omega)]
   exact specIn_yes t 0 1000000000 w (by omega) (by omega)
structure Buf (w0 w : World) (g : Nat) (xs : List UInt8) : Prop where
 block : ∃ (cs : Array Value) (n : Nat), w.heap[g]? = some (.cells cs 5 (n, n + 1)) ∧ xs.length ≤ n ∧ xs.length ≤ cs.size ∧ ∀ j, j < xs.length → cs[j]? = some (u8v (xs.getD j 0))
 own : w0.heap.size ≤ g
 below : Below w0.heap.size w0 w

theorem Buf.cell {w0 w : World} {g : Nat} {xs : List UInt8} (t : Buf w0 w g xs) (j : Nat) (hj : j < xs.length) : w.cell? ⟨g, j, none⟩ = some (u8v (xs.getD j 0)) := by
 obtain ⟨cs, n, hb, h1, h2, h3⟩ := t.block
 have := h3 j hj
 simp [World.cell?, hb, this]
theorem Buf.frozen {w0 w : World} {g : Nat} {xs : List UInt8} (t : Buf w0 w g xs) (j : Nat) (hj : j < xs.length) : w.frozen? ⟨g, j, none⟩ = false := by
 obtain ⟨cs, n, hb, h1, h2, h3⟩ := t.block
 simp [World.frozen?, hb]
 omega
theorem Buf.set {w0 w : World} {g : Nat} {xs : List UInt8} (t : Buf w0 w g xs) (k : Nat) (c : UInt8) {v : Value} (hv : v = u8v c) : Buf w0 (w.setCell ⟨g, k, none⟩ v) g (xs.set k c) := by
 subst hv
 obtain ⟨cs, n, hb, h1, h2, h3⟩ := t.block
 refine ⟨⟨cs.setIfInBounds k (u8v c), n, ?_, by simpa using h1, by simpa using h2, ?_⟩, t.own, t.below.trans ((Below.refl _ _).setCell t.own _)⟩
 · rw [set_block _ hb]
 · intro j hj
   rw [List.length_set] at hj
   rw [Array.getElem?_setIfInBounds]
   by_cases e : k = j
   · subst e
     rw [if_pos rfl, if_pos (by omega)]
     simp [hj]
   · rw [if_neg e, h3 j hj]
     simp [e]
theorem Buf.drewN {w0 w : World} {g : Nat} {xs : List UInt8} (t : Buf w0 w g xs) (n : Nat) : Buf w0 (w.drewN n) g xs := ⟨t.block, t.own, t.below.trans (below_draws n)⟩
theorem Buf.str {w0 w : World} {g c n : Nat} {xs : List UInt8} (t : Buf w0 w g xs) (hn : xs.length = n) :
   (convert 22 9 (.slice (some ⟨g, 0, none⟩) n c)).run Try.prog w = .ok (.string ⟨xs.toArray⟩) w := str_of_cells xs hn t.cell

theorem buf_new (w : World) (s : ByteArray) : ∃ cap W, (convert 9 22 (.string s)).run Try.prog w = .ok (.slice (some ⟨w.heap.size, 0, none⟩) s.size cap) W ∧ Buf w W w.heap.size s.data.toList ∧ s.size ≤ cap := by
 have hrun := run_bytes_of_string (P := Try.prog) w 9 22 5 s Try.underlying9 Try.underlying22 Try.underlying5
 have hcap : s.size ≤ grownCap w s.size 0 5 := grownCap_ge _ _ _ _
 refine ⟨_, _, hrun, ⟨⟨bytesRow s (grownCap w s.size 0 5), (bytesRow s (grownCap w s.size 0 5)).size, ?_, ?_, ?_, ?_⟩, Nat.le_refl _, ?_⟩, hcap⟩
 · show (w.heap.push _)[w.heap.size]? = _
   simp
 · simp [bytesRow]
 · simp [bytesRow]
 · intro j hj
   have hj' : j < s.size := by simpa using hj
   unfold bytesRow
   rw [Array.getElem?_append_left (by simpa using hj')]
   simp [u8v, hj']
 · exact ⟨rfl, rfl, rfl, by simp, fun k hk => by
     show (w.heap.push _)[k]? = _
     rw [Array.getElem?_push, if_neg (by omega)]⟩
def revTo (l : List UInt8) (i : Nat) : List UInt8 := (List.range l.length).map fun k => if k < i ∨ l.length ≤ k + i then l.getD (l.length - 1 - k) 0 else l.getD k 0
theorem revTo_len (l : List UInt8) (i : Nat) : (revTo l i).length = l.length := by simp [revTo]
theorem revTo_at (l : List UInt8) (i k : Nat) (hk : k < l.length) : (revTo l i)[k]? = some (if k < i ∨ l.length ≤ k + i then l.getD (l.length - 1 - k) 0 else l.getD k 0) := by
 unfold revTo
 rw [List.getElem?_map, List.getElem?_range hk]
 rfl
theorem revTo_zero (l : List UInt8) : revTo l 0 = l := by
 apply List.ext_getElem?
 intro k
 by_cases hk : k < l.length
 · rw [revTo_at l 0 k hk, if_neg (by omega), List.getElem?_eq_getElem hk]
   simp [hk]
 · rw [List.getElem?_eq_none (by rw [revTo_len]; omega), List.getElem?_eq_none (by omega)]
theorem revTo_end (l : List UInt8) (i : Nat) (h : l.length ≤ 2 * i + 1) : revTo l i = l.reverse := by
 apply List.ext_getElem?
 intro k
 by_cases hk : k < l.length
 · rw [revTo_at l i k hk, List.getElem?_reverse hk]
   by_cases h1 : k < i ∨ l.length ≤ k + i
   · rw [if_pos h1, List.getElem?_eq_getElem (by omega)]
     simp [show l.length - 1 - k < l.length by omega]
   · have e : l.length - 1 - k = k := by omega
     rw [if_neg h1, e, List.getElem?_eq_getElem hk]
     simp [hk]
 · rw [List.getElem?_eq_none (by rw [revTo_len]; omega), List.getElem?_eq_none (by simp; omega)]
theorem revTo_same (l : List UInt8) (i : Nat) (h : i < l.length - 1 - i) : (revTo l i).getD i 0 = l.getD i 0 ∧ (revTo l i).getD (l.length - 1 - i) 0 = l.getD (l.length - 1 - i) 0 := by
 have h1 := revTo_at l i i (by omega)
 have h2 := revTo_at l i (l.length - 1 - i) (by omega)
 rw [if_neg (by omega)] at h1 h2
 exact ⟨by rw [List.getD_eq_getElem?_getD, h1]; rfl, by rw [List.getD_eq_getElem?_getD, h2]; rfl⟩
theorem revTo_step (l : List UInt8) (i : Nat) (h : i < l.length - 1 - i) : ((revTo l i).set i (l.getD (l.length - 1 - i) 0)).set (l.length - 1 - i) (l.getD i 0) = revTo l (i + 1) := by
 apply List.ext_getElem?
 intro k
 by_cases hk : k < l.length
 · rw [revTo_at l (i + 1) k hk, List.getElem?_set]
   by_cases h1 : l.length - 1 - i = k
   · subst h1
     rw [if_pos rfl, if_pos (by simp [revTo_len]; omega), if_pos (by omega), show l.length - 1 - (l.length - 1 - i) = i by omega]
   · rw [if_neg h1, List.getElem?_set]
     by_cases h2 : i = k
     · subst h2
       rw [if_pos rfl, if_pos (by rw [revTo_len]; omega), if_pos (by omega)]
     · rw [if_neg h2, revTo_at l i k hk]
       by_cases h3 : k < i ∨ l.length ≤ k + i
       · rw [if_pos h3, if_pos (by omega)]
       · rw [if_neg h3, if_neg (by omega)]
 · rw [List.getElem?_eq_none (by simp [revTo_len]; omega), List.getElem?_eq_none (by rw [revTo_len]; omega)]

set_option maxHeartbeats 2000000 in
theorem reverse_at (w0 w : World) (g c : Nat) (xs : List UInt8) (t : Buf w0 w g xs) (hl : xs.length ≤ 1048576) (hc : xs.length ≤ c) :
   Calls Try.prog 88 #[.slice (some ⟨g, 0, none⟩) xs.length c] w fun e w' => (∃ v, e = .returned v) ∧ Buf w0 w' g xs.reverse := by
 obtain ⟨n, hn⟩ : ∃ n, xs.length = n := ⟨_, rfl⟩
 have HN := Lib.hid hn
 have T0 := Lib.hid t
 rw [hn] at hl hc ⊢
 clear hn t
 go_enter Try.func88, Try.ntmps88
 go_wp2_with fail
 go_loopw [2, 3] (fun ii jj wr => ∃ i : Nat, (i = 0 ∨ 2 * i ≤ n) ∧ ii = .int .i64 i ∧ jj = .int .i64 ((n : Int) - 1 - i) ∧ Buf w0 wr g (revTo xs i)) (fun ii _ _ => n - (intOf ii).toNat)
 case atStart => exact ⟨0, .inl rfl, rfl, by go_num, by rw [revTo_zero]; exact T0.out⟩
 case round =>
   obtain ⟨i, hi, rfl, rfl, t⟩ := hrel
   have TT := Lib.hid t
   by_cases hlt : i < n - 1 - i
   · obtain ⟨j, hj⟩ : ∃ j, n - 1 - i = j := ⟨_, rfl⟩
     have ej : ((n : Int) - 1 - i) = (j : Int) := by omega
     have hs := revTo_same xs i (by rw [HN.out]; exact hlt)
     have hst := revTo_step xs i (by rw [HN.out]; exact hlt)
     rw [HN.out, hj] at hs hst
     have c0 := t.cell i (by rw [revTo_len, HN.out]; omega)
     have c1 := t.cell j (by rw [revTo_len, HN.out]; omega)
     rw [hs.1] at c0
     rw [hs.2] at c1
     have f0 := t.frozen i (by rw [revTo_len, HN.out]; omega)
     have f1 := t.frozen j (by rw [revTo_len, HN.out]; omega)
     unfold u8v at c0 c1
     obtain ⟨ci, hci⟩ : ∃ x, xs.getD i 0 = x := ⟨_, rfl⟩
     obtain ⟨cj, hcj⟩ : ∃ x, xs.getD j 0 = x := ⟨_, rfl⟩
     rw [hci] at c0 hst
     rw [hcj] at c1 hst
     have HST := Lib.hid hst
     rw [ej]
     have hij : i ≠ j := by omega
     have hjn : j < n := by omega
     have hin : i < n := by omega
     have i1 : (i : Int) < (j : Int) := by omega
     have i2 : (j : Int) < (n : Int) := by omega
     have i3 : (i : Int) < (n : Int) := by omega
     have HJ := Lib.hid hj
     clear t hs hst hj ej hci hcj
     go_wp2_with fail
     go_region
     go_wp2
     go_roundw
     case rel => exact ⟨i + 1, .inr (by have := HJ.out; omega), by go_num, by have := HJ.out; go_num, by rw [← HST.out]; exact (((TT.out.set i cj rfl).set j ci rfl).drewN 1)⟩
     case measure => simp [intOf]; omega
   · have HE := Lib.hid (revTo_end xs i (by rw [HN.out]; omega))
     have i1 : ¬ ((i : Int) < (n : Int) - 1 - i) := by omega
     clear t
     go_wp2
     exact bodyPost_end (results_none rfl _ _ _) rfl ⟨⟨_, rfl⟩, by rw [← HE.out]; exact TT.out⟩

set_option maxHeartbeats 400000 in
theorem implReversed (s : ByteArray) (hs : s.size ≤ 1048576) (w : World) : Calls Try.prog 78 #[.string s] w (TextIs w s.data.toList.reverse) := by
 obtain ⟨cap, W, hcv, hbuf, hcap⟩ := buf_new w s
 have hll : s.data.toList.length = s.size := by simp
 have HLL := Lib.hid hll
 have HBF := Lib.hid hbuf
 clear hbuf hll
 go_enter Try.func78, Try.ntmps78
 go_wp2_with fail
 have HR := reverse_at w W w.heap.size cap s.data.toList HBF.out (by rw [HLL.out]; omega) (by rw [HLL.out]; omega)
 rw [HLL.out] at HR
 refine HR.mono ?_
 clear HR
 rintro e w1 ⟨⟨v, rfl⟩, b1⟩
 have hst := b1.str (c := cap) (n := s.size) (by simp)
 have B1 := Lib.hid b1.below
 clear b1 hcv
 go_wp2
 go_ret
 exact ⟨rfl, B1.out⟩
def Same (w : World) (A : ByteArray) (e : Ending) (w' : World) : Prop := e = .returned (.string A) ∧ Below w.heap.size w w'
theorem as_text {A : ByteArray} {l : List UInt8} (h : A.data.toList = l) : (⟨l.toArray⟩ : ByteArray) = A := bytes_ext (by rw [h])
theorem text_of (l : List UInt8) : ∃ A : ByteArray, A.data.toList = l ∧ A.size = l.length := ⟨⟨l.toArray⟩, rfl, by simp [ByteArray.size]⟩
theorem alike_succ {a b : ByteArray} {k : Nat} (h1 : k < a.size) (h2 : k < b.size) (h : ∀ j, j < k → a.data.toList[j]? = b.data.toList[j]?)
   (hk : ((a[k].toNat : Int) != (b[k].toNat : Int)) = false) : ∀ j, j < k + 1 → a.data.toList[j]? = b.data.toList[j]? := by
 intro j hj
 by_cases e : j = k
 · subst e
   have : a[j] = b[j] := by
     have : a[j].toNat = b[j].toNat := by simp at hk; omega
     exact UInt8.toNat_inj.1 this
   rw [byte_at a j h1, byte_at b j h2, this]
 · exact h j (by omega)

theorem sharedParts {a b : ByteArray} {k : Nat} (h1 : k < a.size) (h2 : k < b.size) (h : ∀ j, j < k → a.data.toList[j]? = b.data.toList[j]?)
   (hk : ((a[k].toNat : Int) != (b[k].toNat : Int)) = true) : shared a.data.toList b.data.toList = k := by
 refine shared_eq k _ _ (by simp; omega) (by simp; omega) h (Or.inr (Or.inr ?_))
 rw [byte_at a k h1, byte_at b k h2]
 intro e
 simp only [Option.some.injEq] at e
 rw [e] at hk
 simp at hk

theorem sharedEnds {a b : ByteArray} {k : Nat} (h1 : k ≤ a.size) (h2 : k ≤ b.size) (h : ∀ j, j < k → a.data.toList[j]? = b.data.toList[j]?)
   (hk : ¬ (k < a.size ∧ k < b.size)) : shared a.data.toList b.data.toList = k := by
 refine shared_eq k _ _ (by simp; omega) (by simp; omega) h ?_
 simp only [Array.length_toList, ByteArray.size_data]
 omega
set_option maxHeartbeats 400000 in
theorem specShared (a b : ByteArray) (w : World) (ha : a.size ≤ maxLen) (hb : b.size ≤ maxLen) :
   Calls Try.prog 63 #[.string a, .string b] w fun e w' => e = .returned (.int .i64 (shared a.data.toList b.data.toList)) ∧ ∃ n, w' = w.drewN n := by
 unfold maxLen at ha hb
 go_enter Try.func63, Try.ntmps63
 go_wp2
 go_loopw [5] (fun i wr => ∃ k : Nat, k ≤ a.size ∧ k ≤ b.size ∧ i = .int .i64 k ∧ Hid (∀ j, j < k → a.data.toList[j]? = b.data.toList[j]?) ∧ ∃ n, wr = w.drewN n) (fun i _ => a.size - (intOf i).toNat)
 case atStart => exact ⟨0, Nat.zero_le _, Nat.zero_le _, rfl, fun j hj => absurd hj (by omega), 0, rfl⟩
 case round =>
   obtain ⟨k, hka, hkb, rfl, HL, n, rfl⟩ := hrel
   by_cases h1 : k < a.size
   · by_cases h2 : k < b.size
     · have i1 : (k : Int) < (a.size : Int) := by omega
       have i2 : (k : Int) < (b.size : Int) := by omega
       go_wp2
       go_quiet (fail)
       go_wp2
       · go_roundw
         case rel => exact ⟨k + 1, by omega, by omega, by go_num, alike_succ h1 h2 HL.out (bne_of_beq ‹_›), _, rfl⟩
         case measure => simp [intOf]; omega
       · go_ret
         exact ⟨ret_int (by rw [sharedParts h1 h2 HL.out (bne_of_nbeq ‹_›)]), n + nq, World.drewN_drewN _ _ _⟩
     · have hd : decide (k < b.size) = false := by simpa using h2
       go_wp2
       go_quiet (fail)
       go_wp2
       go_ret
       exact ⟨ret_int (by rw [sharedEnds hka hkb HL.out (by omega)]), n + nq, World.drewN_drewN _ _ _⟩
   · have hd : decide (k < a.size) = false := by simpa using h1
     go_wp2
     go_quiet (fail)
     go_wp2
     go_ret
     exact ⟨ret_int (by rw [sharedEnds hka hkb HL.out (by omega)]), n + nq, World.drewN_drewN _ _ _⟩
theorem empty_iff (V : ByteArray) : V.data.toList.isEmpty = V.toList.isEmpty := by rw [ByteArray.toList_eq]
theorem cellOk_form (R C : ByteArray) (T : Int) (G : Bool) (V : ByteArray) : cellOk ⟨R, C, T, G, V⟩ = (nameOk R.data.toList && nameOk C.data.toList && timeOk T && decide (V.size ≤ 30) && (!G || V.toList.isEmpty)) := by
 unfold cellOk; rw [empty_iff]
theorem box_below (w : World) (o : Obj) (n : Nat) : Below w.heap.size w ((w.alloc o).drewN n) := ((Below.refl _ w).alloc (Nat.le_refl _) o).trans (below_draws n)

set_option maxHeartbeats 2000000 in
theorem implCellOk (R C : ByteArray) (T : Int) (G : Bool) (V : ByteArray) (hR : R.size ≤ maxLen) (hC : C.size ≤ maxLen) (w : World) :
   Calls Try.prog 49 #[.agg #[.string R, .string C, .int .i64 T, .bool G, .string V]] w fun e w' => e = .returned (.bool (cellOk ⟨R, C, T, G, V⟩)) ∧ Below w.heap.size w w' := by
 rw [cellOk_form]
 obtain ⟨r, hr⟩ : ∃ r, nameOk R.data.toList = r := ⟨_, rfl⟩
 obtain ⟨c, hc⟩ : ∃ c, nameOk C.data.toList = c := ⟨_, rfl⟩
 obtain ⟨t, ht⟩ : ∃ t, timeOk T = t := ⟨_, rfl⟩
 rw [hr, hc, ht]
 have HN := Lib.hid (And.intro hr (And.intro hc ht))
 clear hr hc ht
 obtain ⟨m, hm⟩ : ∃ m, V.toList.isEmpty = m := ⟨_, rfl⟩
 rw [hm]
 have key : (G = true ∧ m = false) ∨ (!G || m) = true := by cases G <;> cases m <;> simp
 rcases key with ⟨rfl, rfl⟩ | hg
 · go_enter Try.func49, Try.ntmps49
   go_wp2
   go_ret
   exact ⟨ret_bool (by simp), box_below _ _ 0⟩
 · rw [hg]
   have walk : ∀ (G : Bool), (!G || m) = true → Calls Try.prog 49 #[.agg #[.string R, .string C, .int .i64 T, .bool G, .string V]] w fun e w' => e = .returned (.bool (r && c && t && decide (V.size ≤ 30) && true)) ∧ Below w.heap.size w w' := by
     intro G hg
     have hk : G = false ∨ (G = true ∧ m = true) := by cases G <;> cases m <;> simp_all
     clear hg
     rcases hk with rfl | ⟨rfl, rfl⟩
     all_goals
       go_enter Try.func49, Try.ntmps49
       go_wp2_with fail
       refine (implName R hR _).mono ?_
       rw [HN.out.1]
       rintro e w1 ⟨rfl, n1, rfl⟩
       cases r
       · go_wp2
         go_ret
         exact ⟨ret_bool (by simp), box_below _ _ _⟩
       go_wp2_with fail
       refine (implName C hC _).mono ?_
       rw [HN.out.2.1]
       rintro e w1 ⟨rfl, n2, rfl⟩
       cases c
       · go_wp2
         go_ret
         exact ⟨ret_bool (by simp), box_below _ _ _⟩
       go_wp2_with fail
       refine (implTime T _).mono ?_
       rw [HN.out.2.2]
       rintro e w1 ⟨rfl, rfl⟩
       cases t
       · go_wp2
         go_ret
         exact ⟨ret_bool (by simp), box_below _ _ _⟩
       go_wp2
       go_ret
       exact ⟨ret_bool (by simp; omega), box_below _ _ _⟩
   exact walk G hg
set_option maxHeartbeats 400000 in
theorem implBefore (a b : ByteArray) (w : World) :
   Calls Try.prog 74 #[.string a, .string b] w fun e w' => e = .returned (.bool (ahead a.data.toList b.data.toList)) ∧ ∃ n, w' = w.drewN n := by
 go_enter Try.func74, Try.ntmps74
 go_wp2
 go_ret
 exact ⟨ret_bool (by rw [← ahead_less]; rw [ByteArray.toList_eq, ByteArray.toList_eq]), 0, rfl⟩

set_option maxHeartbeats 400000 in
theorem specBefore (a b : ByteArray) (w : World) (ha : a.size ≤ maxLen) (hb : b.size ≤ maxLen) :
   Calls Try.prog 70 #[.string a, .string b] w fun e w' => e = .returned (.bool (ahead a.data.toList b.data.toList)) ∧ ∃ n, w' = w.drewN n := by
 go_enter Try.func70, Try.ntmps70
 go_wp2_with fail
 refine (specShared a b _ ha hb).mono ?_
 rintro e w1 ⟨rfl, n1, rfl⟩
 have l1 := shared_le_left a.data.toList b.data.toList
 have l2 := shared_le_right a.data.toList b.data.toList
 have HA := Lib.hid (ahead_def a.data.toList b.data.toList)
 obtain ⟨k, hk⟩ : ∃ k, shared a.data.toList b.data.toList = k := ⟨_, rfl⟩
 rw [hk] at HA l1 l2 ⊢
 clear hk
 simp only [Array.length_toList, ByteArray.size_data] at l1 l2
 go_wp2_with fail
 · have h1 : k < a.size := by assumption
   have h2 : k < b.size := by assumption
   have i1 : (k : Int) < (a.size : Int) := by omega
   have i2 : (k : Int) < (b.size : Int) := by omega
   go_quiet (fail)
   go_wp2
   go_ret
   refine ⟨ret_bool ?_, _, World.drewN_drewN _ _ _⟩
   rw [HA.out, if_pos ⟨by simpa using h1, by simpa using h2⟩, List.getD_eq_getElem?_getD, List.getD_eq_getElem?_getD, byte_at a k h1, byte_at b k h2]
   simp
 · have h2 : ¬ k < b.size := by assumption
   go_ret
   exact ⟨ret_bool (by rw [HA.out, if_neg (by simp; omega)]; simp), n1, rfl⟩
 · have h1 : ¬ k < a.size := by assumption
   go_ret
   exact ⟨ret_bool (by rw [HA.out, if_neg (by simp; omega)]; simp), n1, rfl⟩
def One5 (A : Nat) (a0 a1 a2 a3 a4 : Value) (w : World) : Prop :=
 w.cell? ⟨A, 0, none⟩ = some a0 ∧ w.cell? ⟨A, 1, none⟩ = some a1 ∧ w.cell? ⟨A, 2, none⟩ = some a2 ∧ w.cell? ⟨A, 3, none⟩ = some a3 ∧ w.cell? ⟨A, 4, none⟩ = some a4
theorem One5.below {A : Nat} {a0 a1 a2 a3 a4 : Value} {w w' : World} (h : One5 A a0 a1 a2 a3 a4 w) (hb : Below w.heap.size w w') : One5 A a0 a1 a2 a3 a4 w' := by
 have hA := cell_lt h.1
 obtain ⟨h0, h1, h2, h3, h4⟩ := h
 exact ⟨(hb.cell (p := ⟨A, 0, none⟩) hA).trans h0, (hb.cell (p := ⟨A, 1, none⟩) hA).trans h1, (hb.cell (p := ⟨A, 2, none⟩) hA).trans h2, (hb.cell (p := ⟨A, 3, none⟩) hA).trans h3, (hb.cell (p := ⟨A, 4, none⟩) hA).trans h4⟩
theorem one5_new (w : World) (a0 a1 a2 a3 a4 : Value) (T : Nat) : One5 w.heap.size a0 a1 a2 a3 a4 (w.alloc (.cells #[a0, a1, a2, a3, a4] T)) := by
 have hA := alloc_at w (.cells #[a0, a1, a2, a3, a4] T)
 refine ⟨?_, ?_, ?_, ?_, ?_⟩
 all_goals (simp only [World.cell?, hA]; rfl)
theorem fixVal_take (s : ByteArray) (k : Nat) (h : k < s.size) : fixVal (s.data.toList.take (k + 1)) = fixVal (s.data.toList.take k) + 2 ^ (8 * k) * s[k].toNat := by
 rw [take_snoc s k h, fixVal_snoc, List.length_take]
 have e2 : min k s.data.toList.length = k := by simp; omega
 rw [e2]
theorem fixVal_take_lt (l : List UInt8) (k : Nat) : fixVal (l.take k) < 2 ^ (8 * k) := by
 refine Nat.lt_of_lt_of_le (fixVal_lt _) ?_
 exact Nat.pow_le_pow_right (by omega) (by have := List.length_take_le k l; omega)
theorem part_list (s : ByteArray) (a b : Nat) : (s.extract a (a + b)).data.toList = (s.data.toList.drop a).take b := by
 simp only [ByteArray.data_extract, Array.toList_extract, List.extract_eq_take_drop]
 congr 1
 omega

theorem or_byte (v k c : Nat) (hk : k < 4) (hv : v < 2 ^ (8 * k)) (hc : c < 256) : bits .or .i64 (v : Int) (wrap64 ((c : Int) * 2 ^ (8 * k))) = ((v + 2 ^ (8 * k) * c : Nat) : Int) := by
 have hp : 2 ^ (8 * k) ≤ 2 ^ 24 := Nat.pow_le_pow_right (by omega) (by omega)
 have hm : 2 ^ (8 * k) * c ≤ 2 ^ 24 * 256 := Nat.mul_le_mul hp (by omega)
 have e : (c : Int) * 2 ^ (8 * k) = ((2 ^ (8 * k) * c : Nat) : Int) := by rw [Int.natCast_mul, Int.mul_comm]; simp
 have e2 : wrap64 ((2 ^ (8 * k) * c : Nat) : Int) = ((2 ^ (8 * k) * c : Nat) : Int) := by unfold wrap64; omega
 rw [e, e2, i64_or_nat _ _ (by omega) (by omega), Nat.or_comm, ← Nat.two_pow_add_eq_or_of_lt hv, Nat.add_comm]

set_option maxHeartbeats 400000 in
theorem takeFix_yes {T : Nat} (p : Nat) (s : ByteArray) (a b : Nat) (w : World) (h : RdT T w p s a) (hs : s.size ≤ maxLen) (h1 : 1 ≤ b) (h4 : b ≤ 4) (hn : a + b ≤ s.size) :
   Calls Try.prog 37 #[.pointer (some ⟨p, 0, none⟩), .int .i64 b] w fun e w' => e = .returned (.tuple #[.int .i64 (fixVal ((s.data.toList.drop a).take b)), .bool true]) ∧ RdT T w' p s (a + b : Nat) ∧ w.grownBy w' (some p) := by
 have HH := Lib.hid h
 clear h
 go_enter Try.func37, Try.ntmps37
 go_wp2_with fail
 refine (take_yes p s a b _ HH.out hs hn).mono ?_
 rintro e w1 ⟨rfl, hr, hg⟩
 have HX := Lib.hid (And.intro hr hg)
 clear hr hg
 unfold maxLen at hs
 have hz : (s.extract a (a + b)).size = b := by rw [ByteArray.size_extract]; omega
 have hq := part_list s a b
 generalize s.extract a (a + b) = q at hz hq ⊢
 have HQ := Lib.hid hq
 have hz1 : q.size ≤ 4 := by omega
 have HZ := Lib.hid hz
 clear hq hz
 go_wp2_with fail
 go_loop [8, 26] (fun n i => ∃ k : Nat, k ≤ q.size ∧ i = .int .i64 k ∧ n = .int .i64 (fixVal (q.data.toList.take k))) (fun _ i => q.size - (intOf i).toNat)
 case atStart => exact ⟨0, Nat.zero_le _, rfl, rfl⟩
 case round =>
   obtain ⟨k, hk, rfl, rfl⟩ := hrel
   by_cases hlt : k < q.size
   · have HV := Lib.hid (fixVal_take q k hlt)
     have hv := fixVal_take_lt q.data.toList k
     have hc := q[k].toNat_lt
     have HO := Lib.hid (or_byte _ k q[k].toNat (by omega) hv (by omega))
     have i1 : (k : Int) < (q.size : Int) := by omega
     clear hv
     go_wp2
     go_round
     case rel => exact ⟨k + 1, by omega, by go_num, congrArg (Value.int IntKind.i64) (by rw [HO.out, HV.out])⟩
     case measure => simp [intOf]; omega
   · obtain rfl : k = q.size := by omega
     have e0 : q.data.toList.take q.size = q.data.toList := List.take_of_length_le (by simp)
     rw [e0]
     clear e0
     go_wp2
     go_ret2
     exact ⟨congrArg (fun l => Ending.returned (.tuple #[.int .i64 (fixVal l : Nat), .bool true])) HQ.out, HX.out.1, HX.out.2⟩

set_option maxHeartbeats 400000 in
theorem takeFix_no {T : Nat} (p : Nat) (s : ByteArray) (a b : Int) (w : World) (h : RdT T w p s a) (hs : s.size ≤ maxLen) (hn : b < 1 ∨ 4 < b ∨ a < 0 ∨ s.size < a ∨ s.size - a < b) :
   Calls Try.prog 37 #[.pointer (some ⟨p, 0, none⟩), .int .i64 b] w fun e w' => e = .returned (.tuple #[.int .i64 0, .bool false]) ∧ ∃ n, w' = w.drewN n := by
 have HH := Lib.hid h
 have HN := Lib.hid hn
 clear h hn
 by_cases h1 : b < 1
 · go_enter Try.func37, Try.ntmps37
   go_wp2
   go_ret2
   exact ⟨rfl, 0, rfl⟩
 · by_cases h4 : 4 < b
   · go_enter Try.func37, Try.ntmps37
     go_wp2
     go_ret2
     exact ⟨rfl, 0, rfl⟩
   · go_enter Try.func37, Try.ntmps37
     go_wp2_with fail
     refine (take_no p s a b _ HH.out hs (by have := HN.out; omega)).mono ?_
     rintro e w1 ⟨rfl, m, rfl⟩
     go_wp2
     go_ret2
     exact ⟨rfl, _, rfl⟩
end Go.Proofs.Ytkomnnijnggbpaa
/- Plain mathematics of the program's way to pack: where four bytes stood last, told bytes cut at 127, what is read token by token. -/
namespace Go.Proofs.Ytkomnnijnggbpaa
set_option linter.unusedVariables false

theorem runFrom_ends (l : List UInt8) (i far : Nat) : ∀ f n, runFrom l i far n f = n + f ∨ ¬ (i + runFrom l i far n f < l.length ∧ l[i + runFrom l i far n f]? = l[i + runFrom l i far n f - far]?)
 | 0, n => Or.inl rfl
 | f + 1, n => by
   rw [runFrom]
   split
   · rename_i h
     rcases runFrom_ends l i far f (n + 1) with h1 | h1
     · left; omega
     · exact Or.inr h1
   · rename_i h
     exact Or.inr h
theorem runLen_in (l : List UInt8) (i far : Nat) (hi : i ≤ l.length) : i + runLen l i far ≤ l.length := by
 by_cases h : runLen l i far = 0
 · omega
 · have := (runLen_same l i far (runLen l i far - 1) (by omega)).1
   omega
theorem shared_run (l : List UInt8) (i far : Nat) (h1 : 1 ≤ far) (hf : far ≤ i) (hi : i ≤ l.length) : shared (l.drop (i - far)) ((l.drop i).take 67) = runLen l i far := by
 have h67 := runLen_le l i far
 have hin := runLen_in l i far hi
 refine shared_eq _ _ _ (by rw [List.length_drop]; omega) (by rw [List.length_take, List.length_drop]; omega) (fun j hj => ?_) ?_
 · have h := (runLen_same l i far j hj).2
   rw [List.getElem?_drop, List.getElem?_take, if_pos (by omega), List.getElem?_drop, h]
   congr 1
   omega
 · rcases runFrom_ends l i far 67 0 with h | h
   · right; left
     rw [List.length_take, List.length_drop]
     have : runLen l i far = 67 := by unfold runLen; omega
     omega
   · change ¬ (i + runLen l i far < l.length ∧ l[i + runLen l i far]? = l[i + runLen l i far - far]?) at h
     by_cases h2 : i + runLen l i far < l.length
     · right
       by_cases h3 : runLen l i far = 67
       · left
         rw [List.length_take, List.length_drop]; omega
       · right
         rw [List.getElem?_drop, List.getElem?_take, if_pos (by omega), List.getElem?_drop]
         intro e
         apply h
         refine ⟨h2, ?_⟩
         rw [← e]
         congr 1
         omega
     · right; left
       rw [List.length_take, List.length_drop]; omega

def four (l : List UInt8) (p : Nat) : List UInt8 := (l.drop p).take 4
theorem run_four (l : List UInt8) (i far : Nat) (hf : far ≤ i) (h : 4 ≤ runLen l i far) : four l (i - far) = four l i := by
 unfold four
 apply List.ext_getElem?
 intro j
 rw [List.getElem?_take, List.getElem?_take]
 split
 · have h2 := (runLen_same l i far j (by omega)).2
   rw [List.getElem?_drop, List.getElem?_drop, h2]
   congr 1
   omega
 · rfl
theorem best_nil (l : List UInt8) (i : Nat) : ∀ f, (∀ g, 1 ≤ g → g ≤ f → runLen l i g < 4) → bestTo l i f = (0, 0)
 | 0, _ => rfl
 | f + 1, h => by
   rw [bestTo, if_neg (fun hc => by have := h (f + 1) (by omega) (by omega); omega)]
   exact best_nil l i f (fun g h1 h2 => h g h1 (by omega))
theorem best_near (l : List UInt8) (i f : Nat) (hf : f ≤ i) (h : ∀ p, i - f ≤ p → p < i → four l p ≠ four l i) : bestTo l i f = (0, 0) := by
 refine best_nil l i f (fun g h1 h2 => ?_)
 by_cases h4 : 4 ≤ runLen l i g
 · exact absurd (run_four l i g (by omega) h4) (h (i - g) (by omega) (by omega))
 · omega
theorem copy_end (l : List UInt8) (i : Nat) (hi : i ≤ l.length) (h : l.length < i + 4) : ¬ 0 < (copyAt l i).1 := by
 intro hc
 have := copyAt_ok l i hc
 omega
theorem best_full (l : List UInt8) (i : Nat) (hi : i ≤ l.length) (f : Nat) (h : (bestTo l i f).1 = min 67 (l.length - i)) : ∀ d, bestTo l i (f + d) = bestTo l i f
 | 0 => rfl
 | d + 1 => by
   have ih := best_full l i hi f h d
   have h67 := runLen_le l i (f + d + 1)
   have hin := runLen_in l i (f + d + 1) hi
   rw [← Nat.add_assoc, bestTo, ih, if_neg (fun hc => by omega)]

def chunks (t : List UInt8) : List Tok := if h : t.length ≤ 127 then flush t else ⟨t.take 127, 0, 0⟩ :: chunks (t.drop 127)
termination_by t.length
decreasing_by rw [List.length_drop]; omega
theorem chunks_few {t : List UInt8} (h : t.length ≤ 127) : chunks t = flush t := by rw [chunks, dif_pos h]
theorem chunks_more {t : List UInt8} (h : ¬ t.length ≤ 127) : chunks t = ⟨t.take 127, 0, 0⟩ :: chunks (t.drop 127) := by rw [chunks, dif_neg h]
theorem chunks_len : ∀ (n : Nat) (t : List UInt8), t.length ≤ n → (chunks t).length ≤ t.length
 | 0, t, h => by rw [chunks_few (by omega)]; unfold flush; split <;> simp_all
 | n + 1, t, h => by
   by_cases h1 : t.length ≤ 127
   · rw [chunks_few h1]; unfold flush; split
     · simp
     · rename_i h2; have := List.length_pos_iff.2 h2; simp; omega
   · rw [chunks_more h1]
     have := chunks_len n (t.drop 127) (by rw [List.length_drop]; omega)
     rw [List.length_drop] at this
     rw [List.length_cons]; omega
theorem toks_chunks (l : List UInt8) (rest : List Tok) (j : Nat) (hj : j ≤ l.length) (hend : ∀ t, toksFrom l j t = flush t ++ rest) : ∀ (d i : Nat) (t : List UInt8), j - i ≤ d → i ≤ j → t.length ≤ 127 → (∀ p, i ≤ p → p < j → ¬ 0 < (copyAt l p).1) → toksFrom l i t = chunks (t ++ (l.drop i).take (j - i)) ++ rest := by
 intro d
 induction d with
 | zero =>
   intro i t hd hi ht hn
   obtain rfl : i = j := by omega
   rw [hend, show i - i = 0 by omega, List.take_zero, List.append_nil, chunks_few ht]
 | succ d ih =>
   intro i t hd hi ht hn
   by_cases e : i = j
   · subst e
     rw [hend, show i - i = 0 by omega, List.take_zero, List.append_nil, chunks_few ht]
   · have hil : i < l.length := by omega
     have hnc := hn i (Nat.le_refl _) (by omega)
     have hd1 : (l.drop i).take (j - i) = l[i] :: (l.drop (i + 1)).take (j - (i + 1)) := by
       rw [List.drop_eq_getElem_cons hil, show j - i = (j - (i + 1)) + 1 by omega, List.take_succ_cons]
     rw [toksFrom, dif_pos hil, dif_neg hnc]
     split
     · rename_i h127
       rw [ih (i + 1) [l[i]] (by omega) (by omega) (by simp) (fun p h1 h2 => hn p (by omega) h2), hd1]
       rw [chunks_more (t := t ++ l[i] :: (l.drop (i + 1)).take (j - (i + 1))) (by rw [List.length_append, List.length_cons]; omega)]
       have e1 : ∀ x : List UInt8, (t ++ x).take 127 = t := fun x => by rw [← h127]; exact List.take_left ..
       have e2 : ∀ x : List UInt8, (t ++ x).drop 127 = x := fun x => by rw [← h127]; exact List.drop_left ..
       rw [e1, e2]
       rfl
     · rename_i h127
       rw [ih (i + 1) (t ++ [l[i]]) (by omega) (by omega) (by rw [List.length_append, List.length_singleton]; omega) (fun p h1 h2 => hn p (by omega) h2), hd1, List.append_assoc]
       rfl
theorem toks_copied (l : List UInt8) (i j : Nat) (hi : i ≤ j) (hj : j < l.length) (hn : ∀ p, i ≤ p → p < j → ¬ 0 < (copyAt l p).1) (hc : 0 < (copyAt l j).1) : toksFrom l i [] = chunks ((l.drop i).take (j - i)) ++ (⟨[], (copyAt l j).1, (copyAt l j).2⟩ :: toksFrom l (j + (copyAt l j).1) []) := by
 have := toks_chunks l (⟨[], (copyAt l j).1, (copyAt l j).2⟩ :: toksFrom l (j + (copyAt l j).1) []) j (by omega) (fun t => by rw [toksFrom, dif_pos hj, dif_pos hc]) (j - i) i [] (by omega) hi (by simp) hn
 simpa using this
theorem toks_left (l : List UInt8) (i : Nat) (hi : i ≤ l.length) (hn : ∀ p, i ≤ p → p < l.length → ¬ 0 < (copyAt l p).1) : toksFrom l i [] = chunks (l.drop i) := by
 have := toks_chunks l [] l.length (Nat.le_refl _) (fun t => by rw [toksFrom, dif_neg (by omega)]; simp) (l.length - i) i [] (by omega) hi (by simp) hn
 rw [List.append_nil, List.nil_append, List.take_of_length_le (by rw [List.length_drop]; omega)] at this
 exact this
end Go.Proofs.Ytkomnnijnggbpaa
/- Contract of the program's Shared: it tells with how many bytes both texts begin alike, and leaves memory as it was. -/
namespace Go.Proofs.Ytkomnnijnggbpaa
open Go.RowKit
set_option linter.unusedVariables false

set_option maxHeartbeats 400000 in
theorem implShared (a b : ByteArray) (w : World) (ha : a.size ≤ maxLen) (hb : b.size ≤ maxLen) :
   Calls Try.prog 87 #[.string a, .string b] w fun e w' => e = .returned (.int .i64 (shared a.data.toList b.data.toList)) ∧ ∃ n, w' = w.drewN n := by
 unfold maxLen at ha hb
 go_enter Try.func87, Try.ntmps87
 go_wp2
 all_goals
   go_loopw [13] (fun i wr => ∃ k : Nat, k ≤ a.size ∧ k ≤ b.size ∧ i = .int .i64 k ∧ Hid (∀ j, j < k → a.data.toList[j]? = b.data.toList[j]?) ∧ ∃ n, wr = w.drewN n) (fun i _ => a.size - (intOf i).toNat)
   case atStart => exact ⟨0, Nat.zero_le _, Nat.zero_le _, rfl, fun j hj => absurd hj (by omega), 0, rfl⟩
   case round =>
     obtain ⟨k, hka, hkb, rfl, HL, n, rfl⟩ := hrel
     by_cases hlt : k < a.size ∧ k < b.size
     · obtain ⟨h1, h2⟩ := hlt
       have i1 : (k : Int) < (a.size : Int) := by omega
       have i2 : (k : Int) < (b.size : Int) := by omega
       go_wp2
       go_quiet (fail)
       go_wp2
       · go_ret
         exact ⟨ret_int (by rw [sharedParts h1 h2 HL.out ‹_›]), n + nq, World.drewN_drewN _ _ _⟩
       · go_roundw
         case rel => exact ⟨k + 1, by omega, by omega, by go_num, alike_succ h1 h2 HL.out ‹_›, _, rfl⟩
         case measure => simp [intOf]; omega
     · go_wp2
       go_ret
       exact ⟨ret_int (by rw [sharedEnds hka hkb HL.out hlt]; omega), n, rfl⟩
end Go.Proofs.Ytkomnnijnggbpaa
/- Plain mathematics of reading token by token, as the program does. -/
namespace Go.Proofs.Ytkomnnijnggbpaa
set_option linter.unusedVariables false

def readTok (l : List UInt8) (a : Nat) : Option (Tok × Nat) :=
 if (l.getD a 0).toNat = 0 ∨ 191 < (l.getD a 0).toNat then none
 else if (l.getD a 0).toNat ≤ 127 then
   if a + 1 + (l.getD a 0).toNat ≤ l.length then some (⟨(l.drop (a + 1)).take (l.getD a 0).toNat, 0, 0⟩, a + 1 + (l.getD a 0).toNat) else none
 else if a + 1 < l.length ∧ (l.getD (a + 1) 0).toNat ≠ 0 then some (⟨[], (l.getD a 0).toNat - 124, (l.getD (a + 1) 0).toNat⟩, a + 2) else none


theorem getD_lt (l : List UInt8) (a : Nat) (h : (l.getD a 0).toNat ≠ 0) : a < l.length := by
 by_cases hl : a < l.length
 · exact hl
 · exact absurd (by rw [List.getD_eq_getElem?_getD, List.getElem?_eq_none (by omega)]; rfl) h
theorem readTok_ok {l : List UInt8} {a b : Nat} {y : Tok} (h : readTok l a = some (y, b)) : TokOk y ∧ a < b ∧ b ≤ l.length := by
 unfold readTok at h
 split at h
 · cases h
 · rename_i h0
   have hl := getD_lt l a (fun e => h0 (.inl e))
   split at h
   · rename_i h127
     split at h
     · rename_i hf
       cases h
       refine ⟨.inl ⟨rfl, rfl, ?_, ?_⟩, by omega, hf⟩ <;> (simp only; rw [List.length_take, List.length_drop]; omega)
     · cases h
   · rename_i h127
     split at h
     · rename_i hf
       cases h
       have := (l.getD (a + 1) 0).toNat_lt
       exact ⟨.inr ⟨rfl, by simp only; omega, by simp only; omega, by simp only; omega, by simp only; omega⟩, by omega, by omega⟩
     · cases h
theorem getD_drop (l : List UInt8) (a : Nat) (c : UInt8) (r : List UInt8) (h : l.drop a = c :: r) : l.getD a 0 = c ∧ a < l.length ∧ l.drop (a + 1) = r := by
 have hl : a < l.length := by
   by_cases hl : a < l.length
   · exact hl
   · rw [List.drop_eq_nil_of_le (by omega)] at h; cases h
 rw [List.drop_eq_getElem_cons hl] at h
 cases h
 exact ⟨by rw [List.getD_eq_getElem?_getD, List.getElem?_eq_getElem hl]; rfl, hl, rfl⟩
theorem read_enc (l : List UInt8) (a : Nat) (y : Tok) (r : List UInt8) (hy : TokOk y) (h : l.drop a = encTok y ++ r) : readTok l a = some (y, a + (encTok y).length) ∧ l.drop (a + (encTok y).length) = r := by
 have hd : l.drop (a + (encTok y).length) = r := by rw [← List.drop_drop, h]; exact List.drop_left ..
 refine ⟨?_, hd⟩
 rcases hy with ⟨h1, h2, h3, h4⟩ | ⟨h1, h2, h3, h4, h5⟩
 · obtain ⟨t, n, f⟩ := y
   simp only at h1 h2 h3 h4
   subst h1 h2
   have e : encTok ⟨t, 0, 0⟩ = UInt8.ofNat t.length :: t := by simp [encTok]
   rw [e] at h ⊢
   obtain ⟨g1, g2, g3⟩ := getD_drop l a _ (t ++ r) h
   have g4 : (l.getD a 0).toNat = t.length := by rw [g1]; exact ofNat_small (by omega)
   have g5 : a + 1 + t.length ≤ l.length := by
     have := congrArg List.length g3
     rw [List.length_drop, List.length_append] at this
     omega
   unfold readTok
   rw [g4, if_neg (by omega), if_pos h4, if_pos g5, g3]
   rw [List.take_left]
   simp only [List.length_cons]
   rw [show a + 1 + t.length = a + (t.length + 1) by omega]
 · obtain ⟨t, n, f⟩ := y
   simp only at h1 h2 h3 h4 h5
   subst h1
   have e : encTok ⟨[], n, f⟩ = [UInt8.ofNat (124 + n), UInt8.ofNat f] := by simp [encTok]; omega
   rw [e] at h ⊢
   obtain ⟨g1, g2, g3⟩ := getD_drop l a _ _ h
   obtain ⟨k1, k2, k3⟩ := getD_drop l (a + 1) _ _ g3
   have g4 : (l.getD a 0).toNat = 124 + n := by rw [g1]; exact ofNat_small (by omega)
   have k4 : (l.getD (a + 1) 0).toNat = f := by rw [k1]; exact ofNat_small (by omega)
   unfold readTok
   rw [g4, if_neg (by omega), if_neg (by omega), k4, if_pos ⟨k2, by omega⟩]
   simp

def Packs (l x : List UInt8) : Prop := x.length ≤ 2000 ∧ compress x = l
def TokLeft (l : List UInt8) (a : Nat) (out : List UInt8) : Prop := ∀ x, Packs l x → ∃ ys, l.drop a = ys.flatMap encTok ∧ Fits out ys ∧ mkAll out ys = x
theorem left_new (l : List UInt8) : TokLeft l 0 [] := by
 rintro x ⟨h1, rfl⟩
 exact ⟨tokens x, rfl, tokens_make x h1⟩
theorem left_step {l out : List UInt8} {a : Nat} (h : TokLeft l a out) (ha : a < l.length) (x : List UInt8) (hx : Packs l x) : ∃ y ys, readTok l a = some (y, a + (encTok y).length) ∧ l.drop (a + (encTok y).length) = ys.flatMap encTok ∧ Fits out (y :: ys) ∧ mkAll out (y :: ys) = x := by
 obtain ⟨ys, h1, h2, h3⟩ := h x hx
 cases ys with
 | nil =>
   have := congrArg List.length h1
   rw [List.length_drop] at this
   simp at this
   omega
 | cons y ys =>
   rw [List.flatMap_cons] at h1
   obtain ⟨k1, k2⟩ := read_enc l a y _ h2.1 h1
   exact ⟨y, ys, k1, k2, h2, h3⟩
theorem left_none {l out : List UInt8} {a : Nat} (h : TokLeft l a out) (ha : a < l.length) (hr : readTok l a = none) (x : List UInt8) : ¬ Packs l x := by
 intro hx
 obtain ⟨y, ys, h1, _⟩ := left_step h ha x hx
 rw [hr] at h1
 cases h1
theorem left_far {l out : List UInt8} {a b : Nat} {y : Tok} (h : TokLeft l a out) (ha : a < l.length) (hr : readTok l a = some (y, b)) (hf : out.length < y.far) (x : List UInt8) : ¬ Packs l x := by
 intro hx
 obtain ⟨y', ys, h1, _, h2, _⟩ := left_step h ha x hx
 rw [hr] at h1
 cases h1
 obtain ⟨k1, k2, _⟩ := h2
 rcases k1 with ⟨_, k, _⟩ | ⟨_, k, _⟩ <;> omega
theorem left_next {l out : List UInt8} {a b : Nat} {y : Tok} (h : TokLeft l a out) (ha : a < l.length) (hr : readTok l a = some (y, b)) : TokLeft l b (grow out y) := by
 intro x hx
 obtain ⟨y', ys, h1, h2, h3, h4⟩ := left_step h ha x hx
 rw [hr] at h1
 cases h1
 exact ⟨ys, h2, h3.2.2.2, h4⟩
theorem grow_len (out : List UInt8) (y : Tok) : (grow out y).length = out.length + y.text.length + y.len := by unfold grow; rw [copyOut_len, List.length_append]
theorem mkAll_ge : ∀ (ys : List Tok) (out : List UInt8), out.length ≤ (mkAll out ys).length
 | [], out => Nat.le_refl _
 | y :: ys, out => by
   have h1 := mkAll_ge ys (grow out y)
   have h2 := grow_len out y
   rw [mkAll]; omega
theorem left_long {l out : List UInt8} {a : Nat} (h : TokLeft l a out) (hl : 2000 < out.length) (x : List UInt8) : ¬ Packs l x := by
 intro hx
 obtain ⟨ys, _, _, h3⟩ := h x hx
 have h1 := mkAll_ge ys out
 rw [h3] at h1
 have := hx.1
 omega
theorem left_end {l out : List UInt8} {a : Nat} (h : TokLeft l a out) (ha : ¬ a < l.length) (x : List UInt8) (hx : Packs l x) : out = x := by
 obtain ⟨ys, h1, h2, h3⟩ := h x hx
 cases ys with
 | nil => exact h3
 | cons y ys =>
   have h4 := congrArg List.length h1
   have h5 := encTok_len y
   rw [List.length_drop, List.flatMap_cons, List.length_append] at h4
   omega
theorem expand_yes {l x : List UInt8} (h : Packs l x) : expand1 l = x ∧ expand2 l = true := by
 obtain ⟨h1, rfl⟩ := h
 exact expand_compress x h1
theorem expand_not {l : List UInt8} (h : ∀ x, ¬ Packs l x) : expand1 l = [] ∧ expand2 l = false := by
 have h2 : expand2 l = false := by
   cases he : expand2 l
   · rfl
   · have := expand_ok l he
     exact absurd ⟨this.2, this.1⟩ (h _)
 exact ⟨expand_no l h2, h2⟩
end Go.Proofs.Ytkomnnijnggbpaa
/- Lists of tokens that a call makes: rows of its own. -/
namespace Go.Proofs.Ytkomnnijnggbpaa
open Go.RowKit
set_option linter.unusedVariables false

theorem infoTok : (Try.prog.info? 103).map (fun i => (i.zero, i.size, i.bytes)) = some (some (.agg #[.string ⟨#[]⟩, .int .i64 0, .int .i64 0]), 3, 32) := by kernel_rfl

def tokCells (t : Tok) : List Value := [.string ⟨t.text.toArray⟩, .int .i64 t.len, .int .i64 t.far]
structure TRow (w0 w : World) (v : Value) (xs : List Tok) : Prop where
 row : w.ownsRow w0.heap.size 103 3 v xs.length (xs.flatMap tokCells)
 below : Below w0.heap.size w0 w

theorem TRow.push {w0 w w' : World} {v v' : Value} {xs : List Tok} (t : TRow w0 w v xs) (o : Obj) (x : Tok)
   (hown : w'.ownsRow w0.heap.size 103 3 v' (xs.length + 1) (xs.flatMap tokCells ++ tokCells x)) (hg : (w.alloc o).grownBy w' v.ownBlock) :
   ∃ g c, v' = .slice (some ⟨g, 0, none⟩) (xs.length + 1) c ∧ TRow w0 w' v' (xs ++ [x]) := by
 obtain ⟨g, c, rfl⟩ := ownsRow_succ hown
 refine ⟨g, c, rfl, by simpa using hown, ?_⟩
 exact (t.below.alloc t.below.size o).grown hg (by have := t.below.size; simp; omega) (fun k hk => (t.row.lt k hk).1)

theorem wp_pushT {w0 w : World} {v : Value} {xs : List Tok} (y : Tok) {S : ByteArray} {A B : Int} (hS : S.data.toList = y.text) (hA : A = y.len) (hB : B = y.far) {ops : Array Oper} {rest : List Oper} {o : Oper} {act : Act} {Q : Exit → Act → World → Prop} (hgd : o.guard = none) (s x : Operand)
   (hop : o.op = .call { callee := .builtin .append, args := #[s, x], argTypes := #[100, 100] })
   (hs : act.eval s = v) {ad : Nat} (hx : act.eval x = .slice (some ⟨ad, 0, none⟩) 1 1) (had : ad = w.heap.size) (t : TRow w0 w v xs) (hl : xs.length < 1000000)
   (hk : ∀ g c w', TRow w0 w' (.slice (some ⟨g, 0, none⟩) (xs.length + 1) c) (xs ++ [y]) → (w.alloc (.cells #[.string S, .int .i64 A, .int .i64 B] 103)).grownBy w' v.ownBlock → wpList Try.prog ops Q rest (act.put o.dst (.slice (some ⟨g, 0, none⟩) (xs.length + 1) c)) w') :
   wpList Try.prog ops Q (o :: rest) act (w.alloc (.cells #[.string S, .int .i64 A, .int .i64 B] 103)) := by
 subst hA hB had
 have hS' : S = ⟨y.text.toArray⟩ := bytes_ext (by rw [hS])
 subst hS'
 obtain ⟨ti, hti, hz0, hz1, hz2⟩ := info_parts infoTok
 refine wpList_append_own _ hgd s x 100 hop w0.heap.size 103 ti (.agg #[.string ⟨#[]⟩, .int .i64 0, .int .i64 0]) 3 32 Try.underlying100 hti hz0 hz1 hz2 rfl (by decide) _ xs.length (xs.flatMap tokCells) hs (t.row.alloc _)
   ⟨w.heap.size, 0, none⟩ 1 1 (tokCells y) hx rfl ?_ (fun u hu => by simp [tokCells] at hu; rcases hu with rfl | rfl | rfl <;> rfl) (by unfold maxLen; omega) (by omega) (by have := t.below.size; simp; omega) ?_
 · intro j u hj
   have hadd : (⟨w.heap.size, 0, none⟩ : Addr).add j = ⟨w.heap.size, j, none⟩ := by unfold Addr.add; split <;> simp_all
   rw [hadd]
   have hb : (w.alloc (.cells #[.string ⟨y.text.toArray⟩, .int .i64 y.len, .int .i64 y.far] 103)).heap[w.heap.size]? = some (.cells #[.string ⟨y.text.toArray⟩, .int .i64 y.len, .int .i64 y.far] 103 (0, 0)) := by
     show (w.heap.push _)[w.heap.size]? = _
     simp
   simp only [World.cell?, hb]
   simpa [tokCells] using hj
 · intro v' w' hown hg _
   obtain ⟨g, c, rfl, t'⟩ := t.push _ y hown hg
   exact hk g c w' t' hg

theorem trow_made (w : World) : TRow w (w.alloc (.cells #[] 103)) (.slice (some ⟨w.heap.size, 0, none⟩) 0 0) [] :=
 ⟨World.ownsRow_made w #[] 0 (Nat.le_refl _) (by unfold maxLen; omega) (by simp), (Below.refl _ w).alloc (Nat.le_refl _) _⟩
theorem trow_nil (w : World) : TRow w w (.slice none 0 0) [] := ⟨World.ownsRow_nil _ _ _ _, Below.refl _ _⟩
theorem TRow.old {w0 w : World} {v : Value} {xs : List Tok} (t : TRow w0 w v xs) : ∀ k, v.ownBlock = some k → k < w.heap.size := fun k hk => (t.row.lt k hk).2
theorem kept_cell {W W' : World} {row : Option Nat} (hg : W.grownBy W' row) {b : Nat} (hb : b < W.heap.size) (hne : some b ≠ row) (j : Nat) : W'.cell? ⟨b, j, none⟩ = W.cell? ⟨b, j, none⟩ := World.cell?_of_block (w := W) (hg.block b hb hne)
theorem TRow.later {w0 w w' : World} {v : Value} {xs : List Tok} (t : TRow w0 w v xs) (hb : Below w.heap.size w w') : TRow w0 w' v xs := by
 refine ⟨?_, t.below.trans (hb.mono t.below.size)⟩
 refine ⟨t.row.1, ?_⟩
 rcases t.row.2 with h2 | ⟨g, cap, cur, h1, h2, h3, r⟩
 · exact .inl h2
 · exact .inr ⟨g, cap, cur, h1, h2, (hb.block g ((Array.getElem?_eq_some_iff.1 h3).1)).trans h3, r⟩
theorem tok_cell (xs : List Tok) : ∀ (k j : Nat) (y : Tok), xs[k]? = some y → j < 3 → (xs.flatMap tokCells)[k * 3 + j]? = (tokCells y)[j]? := by
 induction xs with
 | nil => intro k j y h; simp at h
 | cons a l ih =>
   intro k j y h hj
   rw [List.flatMap_cons]
   cases k with
   | zero =>
     simp at h
     subst h
     rw [Nat.zero_mul, Nat.zero_add, List.getElem?_append_left (by simp [tokCells]; omega)]
   | succ k =>
     have ha : (tokCells a).length = 3 := rfl
     rw [List.getElem?_append_right (by rw [ha]; omega), ha, show (k + 1) * 3 + j - 3 = k * 3 + j by omega]
     exact ih k j y (by simpa using h) hj
theorem list_cells {w : World} {gl : Nat} {cur : Array Value} {xs : List Tok} (hb : w.heap[gl]? = some (.cells cur 103 (0, 0))) (hc : cur.toList.take (xs.length * 3) = xs.flatMap tokCells) (k : Nat) (y : Tok) (hk : xs[k]? = some y) :
   w.cell? ⟨gl, k * 3, none⟩ = some (.string ⟨y.text.toArray⟩) ∧ w.cell? ⟨gl, k * 3 + 1, none⟩ = some (.int .i64 y.len) ∧ w.cell? ⟨gl, k * 3 + 2, none⟩ = some (.int .i64 y.far) := by
 have hkl := (List.getElem?_eq_some_iff.1 hk).1
 have h : ∀ j, j < 3 → w.cell? ⟨gl, k * 3 + j, none⟩ = (tokCells y)[j]? := fun j hj => by
   have h1 := tok_cell xs k j y hk hj
   rw [← hc, List.getElem?_take, if_pos (by omega)] at h1
   simp only [World.cell?, hb]
   simpa using h1
 exact ⟨h 0 (by omega), h 1 (by omega), h 2 (by omega)⟩
theorem BRow.alloc {w0 w : World} {v : Value} {xs : List UInt8} (t : BRow w0 w v xs) (o : Obj) : BRow w0 (w.alloc o) v xs := ⟨t.row.alloc o, t.below.alloc t.below.size o⟩
theorem BRow.drewN {w0 w : World} {v : Value} {xs : List UInt8} (t : BRow w0 w v xs) (n : Nat) : BRow w0 (w.drewN n) v xs := ⟨t.row, t.below.trans (below_draws n)⟩
theorem BRow.more {w0 W w' : World} {v v' : Value} {xs : List UInt8} (t : BRow w0 W v xs) (ys : List UInt8) (hown : w'.ownsRow w0.heap.size 5 1 v' (xs.length + ys.length) (xs.map u8v ++ ys.map u8v)) (hg : W.grownBy w' v.ownBlock) : BRow w0 w' v' (xs ++ ys) := by
 refine ⟨by simpa using hown, t.below.grown hg t.below.size (fun k hk => (t.row.lt k hk).1)⟩
theorem strCells_u8 (s : ByteArray) : Lib.strCells s = s.data.toList.map u8v := by
 unfold Lib.strCells u8v
 simp
theorem BRow.apart {w0 w : World} {v : Value} {xs : List UInt8} (t : BRow w0 w v xs) {g U : Nat} {cur : Array Value} {fz : Nat × Nat} (hg : w.heap[g]? = some (.cells cur U fz)) (hU : U ≠ 5) : some g ≠ v.ownBlock := by
 intro e
 rcases t.row.2 with ⟨h0, _⟩ | ⟨g', cap, cur', h1, _, h3, _⟩
 · rw [h0] at e; cases e
 · rw [h1] at e
   cases e
   rw [hg] at h3
   cases h3
   exact hU rfl

theorem op_pushS {w0 w : World} {v : Value} {xs : List UInt8} (S : ByteArray) {o : Oper} {act : Act} {K : Act → World → Prop} {Q : Exit → Act → World → Prop} (s x : Operand)
   (hop : o.op = .call { callee := .builtin .append, args := #[s, x], argTypes := #[22, 9] })
   (hs : act.eval s = v) (hx : act.eval x = .string S) (t : BRow w0 w v xs) (hl : xs.length + S.size < 1000000000)
   (hk : ∀ v' w', BRow w0 w' v' (xs ++ S.data.toList) → w.grownBy w' v.ownBlock → K (act.put o.dst v') w') : o.wp Try.prog act w K Q := by
 obtain ⟨ti, hti, hz0, hz1, hz2⟩ := info_parts infoB
 obtain ⟨v', w', hr, h2, h3, h4⟩ := Lib.run_append_own_string (P := Try.prog) w w0.heap.size 22 9 o.type 5 ti Try.underlying22 Try.underlying9 hti hz0 hz1 hz2 v xs.length (xs.map u8v) t.row S (by unfold maxLen; omega) (by omega) t.below.size
 unfold Oper.wp execOp
 simp only [hop, resolve, invoke, builtin, Sem.run_bind, Sem.run_pure, Result.andThen_ok, List.map_toArray, List.map_cons, List.map_nil, hs, hx, hr]
 refine hk _ _ (t.more S.data.toList ?_ h3) h3
 rw [strCells_u8] at h2
 simpa using h2

theorem op_pushL {w0 w : World} {v : Value} {xs : List UInt8} (ys : List UInt8) {ad : Nat} {o : Oper} {act : Act} {K : Act → World → Prop} {Q : Exit → Act → World → Prop} (s x : Operand)
   (hop : o.op = .call { callee := .builtin .append, args := #[s, x], argTypes := #[22, 22] })
   (hs : act.eval s = v) (hx : act.eval x = .slice (some ⟨ad, 0, none⟩) ys.length ys.length) (hb : ∀ j, j < ys.length → w.cell? ⟨ad, j, none⟩ = some (u8v (ys.getD j 0))) (t : BRow w0 w v xs) (hl : xs.length + ys.length < 1000000000)
   (hk : ∀ v' w', BRow w0 w' v' (xs ++ ys) → w.grownBy w' v.ownBlock → K (act.put o.dst v') w') : o.wp Try.prog act w K Q := by
 obtain ⟨ti, hti, hz0, hz1, hz2⟩ := info_parts infoB
 refine wp_append_own _ s x 22 hop w0.heap.size 5 ti (.int .u8 0) 1 1 Try.underlying22 hti hz0 hz1 hz2 rfl (by decide) v xs.length (xs.map u8v) hs t.row
   ⟨ad, 0, none⟩ ys.length ys.length (ys.map u8v) hx (by simp) ?_ (fun u hu => by obtain ⟨c, _, rfl⟩ := List.mem_map.1 hu; rfl) (by unfold maxLen; omega) (by omega) t.below.size ?_
 · intro j u hj
   have hadd : (⟨ad, 0, none⟩ : Addr).add j = ⟨ad, j, none⟩ := by unfold Addr.add; split <;> simp_all
   have hjl : j < ys.length := by
     have := (List.getElem?_eq_some_iff.1 hj).1
     simpa using this
   rw [hadd, hb j hjl]
   rw [List.getElem?_map, List.getElem?_eq_getElem hjl] at hj
   simp at hj
   simp [← hj, hjl]
 · intro v' w' hown hg _
   exact hk v' w' (t.more ys hown hg) hg

theorem fresh_cell (w : World) (cs : Array Value) (U j : Nat) : (w.alloc (.cells cs U)).cell? ⟨w.heap.size, j, none⟩ = cs[j]? := by
 have : (w.alloc (.cells cs U)).heap[w.heap.size]? = some (.cells cs U (0, 0)) := by
   show (w.heap.push _)[w.heap.size]? = _
   rw [Array.getElem?_push, if_pos rfl]
 unfold World.cell?
 rw [this]
 rfl
theorem two_bytes (w : World) (a b : UInt8) {A B : Int} (hA : A = a.toNat) (hB : B = b.toNat) : ∀ j, j < [a, b].length → (w.alloc (.cells #[.int .u8 A, .int .u8 B] 5)).cell? ⟨w.heap.size, j, none⟩ = some (u8v ([a, b].getD j 0)) := by
 subst hA hB
 intro j hj
 rw [fresh_cell]
 match j, hj with
 | 0, _ => rfl
 | 1, _ => rfl
theorem one_byte (w : World) (a : UInt8) {A : Int} (hA : A = a.toNat) : ∀ j, j < [a].length → (w.alloc (.cells #[.int .u8 A] 5)).cell? ⟨w.heap.size, j, none⟩ = some (u8v ([a].getD j 0)) := by
 subst hA
 intro j hj
 rw [fresh_cell]
 match j, hj with
 | 0, _ => rfl
structure Hop (w w' : World) (v v' : Value) : Prop where
 grow : w.grownBy w' v.ownBlock
 loc : v'.ownBlock = v.ownBlock ∨ ∃ k, v'.ownBlock = some k ∧ w.heap.size ≤ k
theorem Hop.refl (w : World) (v : Value) : Hop w w v v := ⟨grown_refl _ _, .inl rfl⟩
theorem Hop.trans {w w1 w2 : World} {v v1 v2 : Value} (h : Hop w w1 v v1) (h1 : Hop w1 w2 v1 v2) : Hop w w2 v v2 := by
 refine ⟨⟨h1.grow.os.trans h.grow.os, h1.grow.tape.trans h.grow.tape, h1.grow.output.trans h.grow.output, Nat.le_trans h.grow.size h1.grow.size, fun k hk hne => ?_⟩, ?_⟩
 · refine (h1.grow.block k (by have := h.grow.size; omega) ?_).trans (h.grow.block k hk hne)
   rcases h.loc with e | ⟨j, e, hj⟩
   · rw [e]; exact hne
   · rw [e]; intro e2; cases e2; omega
 · rcases h1.loc with e | ⟨j, e, hj⟩
   · rw [e]; exact h.loc
   · exact .inr ⟨j, e, Nat.le_trans h.grow.size hj⟩
theorem Hop.other {w w' : World} {v v' : Value} (h : Hop w w' v v') {b : Nat} (hb : b < w.heap.size) (hne : some b ≠ v.ownBlock) : w'.heap[b]? = w.heap[b]? ∧ some b ≠ v'.ownBlock := by
 refine ⟨h.grow.block b hb hne, ?_⟩
 rcases h.loc with e | ⟨j, e, hj⟩
 · rw [e]; exact hne
 · rw [e]; intro e2; cases e2; omega

theorem tok_new (w : World) (y : Tok) {S : ByteArray} {A B : Int} (hS : S.data.toList = y.text) (hA : A = y.len) (hB : B = y.far) : ∀ j u, (tokCells y)[j]? = some u → (w.alloc (.cells #[.string S, .int .i64 A, .int .i64 B] 103)).cell? ((⟨w.heap.size, 0, none⟩ : Addr).add j) = some u := by
 subst hA hB
 have hS' : S = ⟨y.text.toArray⟩ := bytes_ext (by rw [hS])
 subst hS'
 intro j u hj
 have hadd : (⟨w.heap.size, 0, none⟩ : Addr).add j = ⟨w.heap.size, j, none⟩ := by unfold Addr.add; split <;> simp_all
 rw [hadd]
 have hb : (w.alloc (.cells #[.string ⟨y.text.toArray⟩, .int .i64 y.len, .int .i64 y.far] 103)).heap[w.heap.size]? = some (.cells #[.string ⟨y.text.toArray⟩, .int .i64 y.len, .int .i64 y.far] 103 (0, 0)) := by
   show (w.heap.push _)[w.heap.size]? = _
   simp
 simp only [World.cell?, hb]
 simpa [tokCells] using hj

theorem op_pushT {w0 w : World} {v : Value} {xs : List Tok} (y : Tok) {o : Oper} {act : Act} {K : Act → World → Prop} {Q : Exit → Act → World → Prop} (s x : Operand)
   (hop : o.op = .call { callee := .builtin .append, args := #[s, x], argTypes := #[100, 100] })
   (hs : act.eval s = v) {ad : Nat} (hx : act.eval x = .slice (some ⟨ad, 0, none⟩) 1 1) (hb : ∀ j u, (tokCells y)[j]? = some u → w.cell? ((⟨ad, 0, none⟩ : Addr).add j) = some u) (t : TRow w0 w v xs) (hl : xs.length < 1000000)
   (hk : ∀ v' w', TRow w0 w' v' (xs ++ [y]) → Hop w w' v v' → K (act.put o.dst v') w') : o.wp Try.prog act w K Q := by
 obtain ⟨ti, hti, hz0, hz1, hz2⟩ := info_parts infoTok
 obtain ⟨v', w', hr, hown, hg, _, hloc⟩ := run_append_own_at (P := Try.prog) w w0.heap.size 100 o.type 103 ti (.agg #[.string ⟨#[]⟩, .int .i64 0, .int .i64 0]) 3 32 Try.underlying100 hti hz0 hz1 hz2 rfl (by decide) v xs.length (xs.flatMap tokCells) t.row
   ⟨ad, 0, none⟩ 1 1 (tokCells y) rfl hb (fun u hu => by simp [tokCells] at hu; rcases hu with rfl | rfl | rfl <;> rfl) (by unfold maxLen; omega) (by omega) t.below.size
 unfold Oper.wp execOp
 simp only [hop, resolve, invoke, builtin, Sem.run_bind, Sem.run_pure, Result.andThen_ok, List.map_toArray, List.map_cons, List.map_nil, hs, hx, hr]
 refine hk _ _ ⟨by simpa using hown, t.below.grown hg t.below.size (fun k hk => (t.row.lt k hk).1)⟩ ⟨hg, ?_⟩
 rcases hloc with e | e
 · exact .inl e
 · exact .inr ⟨_, e, Nat.le_refl _⟩

theorem TRow.alloc {w0 w : World} {v : Value} {xs : List Tok} (t : TRow w0 w v xs) (o : Obj) : TRow w0 (w.alloc o) v xs := ⟨t.row.alloc o, t.below.alloc t.below.size o⟩
theorem TRow.drewN {w0 w : World} {v : Value} {xs : List Tok} (t : TRow w0 w v xs) (n : Nat) : TRow w0 (w.drewN n) v xs := ⟨t.row, t.below.trans (below_draws n)⟩
theorem hop_alloc (w : World) (v : Value) (o : Obj) : Hop w (w.alloc o) v v := ⟨⟨rfl, rfl, rfl, by simp, fun k hk _ => heap_alloc_old w o hk⟩, .inl rfl⟩
theorem chunks_cons {T : ByteArray} (h : ¬ T.size ≤ 127) : chunks T.data.toList = ⟨(T.extract 0 127).data.toList, 0, 0⟩ :: chunks (T.extract 127 T.size).data.toList := by
 rw [chunks_more (by simpa using h)]
 simp only [ByteArray.data_extract, Array.toList_extract, List.extract_eq_take_drop]
 rw [List.drop_zero, show 127 - 0 = 127 from rfl, List.take_of_length_le (l := List.drop 127 T.data.toList) (by simp)]
theorem chunks_last {T : ByteArray} (h : T.size ≤ 127) (h0 : ¬ T.size = 0) : chunks T.data.toList = [⟨T.data.toList, 0, 0⟩] := by
 rw [chunks_few (by simpa using h)]
 unfold flush
 rw [if_neg (fun e => h0 (by have := congrArg List.length e; simpa using this))]
theorem chunks_none : chunks (⟨#[]⟩ : ByteArray).data.toList = [] := by rw [chunks_few (by decide)]; rfl
theorem text_empty {T : ByteArray} (h : T.size = 0) : T = ⟨#[]⟩ := by
 apply bytes_ext
 have : T.data.toList.length = 0 := by simpa using h
 exact List.eq_nil_of_length_eq_zero this

def ToldOut (w0 w : World) (v : Value) (xs : List Tok) (e : Ending) (w' : World) : Prop := ∃ v', e = .returned v' ∧ TRow w0 w' v' xs ∧ Hop w w' v v'

set_option maxHeartbeats 1000000 in
set_option maxRecDepth 100000 in
theorem appendTold (w0 w : World) (v : Value) (xs : List Tok) (T : ByteArray) (t : TRow w0 w v xs) (hT : T.size ≤ 2000) (hx : xs.length ≤ 2000) :
   Calls Try.prog 90 #[v, .string T] w (ToldOut w0 w v (xs ++ chunks T.data.toList)) := by
 have T0 := Lib.hid t
 clear t
 go_enter Try.func90, Try.ntmps90
 go_wp2_with fail
 go_loopw [0, 1] (fun v1 tt wr => ∃ (X : ByteArray) (ys : List Tok), tt = .string X ∧ X.size ≤ 2000 ∧ ys.length + X.size ≤ 4000 ∧ Hid (ys ++ chunks X.data.toList = xs ++ chunks T.data.toList) ∧ TRow w0 wr v1 ys ∧ Hop w wr v v1) (fun _ tt _ => match tt with | .string X => X.size | _ => 0)
 case atStart => exact ⟨T, xs, rfl, hT, by omega, rfl, T0.out, Hop.refl _ _⟩
 case round =>
   obtain ⟨X, ys, rfl, hX, hys, HC, t, hop⟩ := hrel
   have TT := Lib.hid t
   have HH := Lib.hid hop
   clear t hop T0
   by_cases h127 : X.size ≤ 127
   · have h1 : ¬ (127 : Int) < (X.size : Int) := by omega
     by_cases h0 : X.size = 0
     · obtain rfl := text_empty h0
       have HE := Lib.hid (show ys = xs ++ chunks T.data.toList by rw [← HC.out, chunks_none, List.append_nil])
       go_wp2
       go_ret
       exact ⟨_, rfl, by rw [← HE.out]; exact TT.out, HH.out⟩
     · have hne : X.toList.isEmpty = false := by rw [ByteArray.toList_eq, List.isEmpty_eq_false_iff]; exact fun e => h0 (by have := congrArg List.length e; simpa using this)
       have hne2 : ¬ X.toList = [] := by rw [ByteArray.toList_eq]; exact fun e => h0 (by have := congrArg List.length e; simpa using this)
       have HE := Lib.hid (show ys ++ [⟨X.data.toList, 0, 0⟩] = xs ++ chunks T.data.toList by rw [← HC.out, chunks_last h127 h0])
       go_wp2_with (at_builtin; refine wpList_plain rfl (fun K hK => ?_); refine op_pushT ⟨X.data.toList, 0, 0⟩ _ _ rfl rfl rfl (tok_new _ _ rfl rfl rfl) (TT.out.alloc _) (by omega) ?_; intro v2 w2 t2 hp2; refine hK _ _ ?_; clear hK K; have T2 := Lib.hid t2; have H2 := Lib.hid (HH.out.trans ((hop_alloc _ _ _).trans hp2)); clear t2 hp2)
       go_ret
       exact ⟨_, rfl, by rw [← HE.out]; exact T2.out, H2.out⟩
   · have h1 : (127 : Int) < (X.size : Int) := by omega
     have HE := Lib.hid (show (ys ++ [⟨(X.extract 0 127).data.toList, 0, 0⟩]) ++ chunks (X.extract 127 X.size).data.toList = xs ++ chunks T.data.toList by rw [← HC.out, chunks_cons h127]; simp)
     have HZ := Lib.hid (show (X.extract 127 X.size).size = X.size - 127 by rw [ByteArray.size_extract]; omega)
     have h2 : (127 : Int) ≤ (X.size : Int) := by omega
     go_wp2_with (at_builtin; refine wpList_plain rfl (fun K hK => ?_); refine op_pushT ⟨(X.extract 0 127).data.toList, 0, 0⟩ _ _ rfl rfl rfl (tok_new _ _ rfl rfl rfl) (TT.out.alloc _) (by omega) ?_; intro v2 w2 t2 hp2; refine hK _ _ ?_; clear hK K; have T2 := Lib.hid t2; have H2 := Lib.hid (HH.out.trans ((hop_alloc _ _ _).trans hp2)); clear t2 hp2)
     go_roundw
     case rel => exact ⟨_, _, rfl, by rw [HZ.out]; omega, by rw [HZ.out, List.length_append, List.length_singleton]; omega, HE.out, T2.out, H2.out⟩
     case measure => show (X.extract 127 X.size).size < X.size; rw [HZ.out]; omega
def i64v (x : Int) : Value := .int .i64 x
def OwnI (B : Nat) (w : World) (v : Value) (xs : List Int) : Prop := w.ownsRow B 3 1 v xs.length (xs.map i64v)
theorem infoInt : (Try.prog.info? 3).map (fun i => (i.zero, i.size, i.bytes)) = some (some (.int .i64 0), 1, 8) := by kernel_rfl
section
variable {B : Nat} {w w' : World} {v : Value} {xs : List Int}
theorem OwnI.form (h : OwnI B w v xs) : ∃ ad cap, v = .slice ad xs.length cap := by
 rcases h.2 with ⟨h0, hn⟩ | ⟨g, cap, cur, h1, _⟩
 · exact ⟨none, 0, by rw [h0, hn]⟩
 · exact ⟨_, _, h1⟩
theorem OwnI.below (h : OwnI B w v xs) (hb : Below w.heap.size w w') : OwnI B w' v xs := by
 refine World.ownsRow.kept h (grown_of_below hb) ?_
 cases hv : v.ownBlock <;> simp
theorem OwnI.new (h : OwnI B w v xs) (o : Obj) : OwnI B (w.alloc o) v xs := World.ownsRow.alloc h o
theorem OwnI.lt (h : OwnI B w v xs) {k : Nat} (hk : v.ownBlock = some k) : B ≤ k ∧ k < w.heap.size := World.ownsRow.lt h k hk
theorem owni_made (w : World) : OwnI w.heap.size (w.alloc (.cells #[] 3)) (.slice (some ⟨w.heap.size, 0, none⟩) 0 0) [] := World.ownsRow_made w #[] 0 (Nat.le_refl _) (by unfold maxLen; omega) (by simp)
def IntAt (w : World) (a : Option Addr) (n c : Nat) (xs : List Int) : Prop := xs.length = n ∧ n ≤ c ∧ ∀ (k : Nat) (x : Int), xs[k]? = some x → ∃ g, a = some ⟨g, 0, none⟩ ∧ w.cell? ⟨g, k, none⟩ = some (.int .i64 x)
theorem IntAt.below {a : Option Addr} {n c : Nat} (h : IntAt w a n c xs) (hb : Below w.heap.size w w') : IntAt w' a n c xs :=
 ⟨h.1, h.2.1, fun k x hk => by obtain ⟨g, e, hc⟩ := h.2.2 k x hk; exact ⟨g, e, (hb.cell (p := ⟨g, k, none⟩) (cell_lt hc)).trans hc⟩⟩
theorem OwnI.row {a : Option Addr} {n c : Nat} (h : OwnI B w (.slice a n c) xs) : IntAt w a n c xs := by
 rcases h.2 with ⟨h0, hn⟩ | ⟨g, cap, cur, h1, _, hc, hn, _, hs, ht⟩
 · cases h0
   refine ⟨hn, Nat.le_refl _, fun k x hk => ?_⟩
   have := (List.getElem?_eq_some_iff.1 hk).1
   omega
 · cases h1
   refine ⟨rfl, hn, fun k x hk => ⟨g, rfl, ?_⟩⟩
   have hk' := (List.getElem?_eq_some_iff.1 hk).1
   have h2 : w.cell? ⟨g, k, none⟩ = cur[k]? := by simp [World.cell?, hc]
   have h3 : (xs.map i64v)[k]? = some (i64v x) := by rw [List.getElem?_map, hk]; rfl
   rw [← ht, List.getElem?_take, if_pos (by omega)] at h3
   rw [h2, ← Array.getElem?_toList]
   exact h3
end
theorem op_pushI {B : Nat} {w : World} {v : Value} {xs : List Int} (ys : List Int) {ad : Addr} {c : Nat} {o : Oper} {act : Act} {K : Act → World → Prop} {Q : Exit → Act → World → Prop} (s x : Operand)
   (hop : o.op = .call { callee := .builtin .append, args := #[s, x], argTypes := #[60, 60] })
   (hs : act.eval s = v) {m : Nat} (hx : act.eval x = .slice (some ad) m c) (hm : ys.length = m) (hb : ∀ j u, (ys.map i64v)[j]? = some u → w.cell? (ad.add j) = some u) (h : OwnI B w v xs) (hB : B ≤ w.heap.size) (hl : xs.length + ys.length < 4194304)
   (hk : ∀ v' w', OwnI B w' v' (xs ++ ys) → w.grownBy w' v.ownBlock → K (act.put o.dst v') w') : o.wp Try.prog act w K Q := by
 subst hm
 obtain ⟨ti, hti, hz0, hz1, hz2⟩ := info_parts infoInt
 refine wp_append_own _ s x 60 hop B 3 ti (.int .i64 0) 1 8 Try.underlying60 hti hz0 hz1 hz2 rfl (by decide) v xs.length (xs.map i64v) hs h
   ad ys.length c (ys.map i64v) hx (by simp) hb (by simp [i64v, Value.oneCell']) (by unfold maxLen; omega) (by omega) hB ?_
 intro v' w' hown hg _
 refine hk v' w' ?_ hg
 unfold OwnI
 rw [List.length_append, List.map_append]
 exact hown
theorem new_int (w : World) (x : Int) : ∀ j u, ([x].map i64v)[j]? = some u → (w.alloc (.cells #[.int .i64 x] 3)).cell? ((⟨w.heap.size, 0, none⟩ : Addr).add j) = some u := by
 intro j u hj
 have e : (⟨w.heap.size, 0, none⟩ : Addr).add j = ⟨w.heap.size, j, none⟩ := by
   unfold Addr.add; split
   · subst_vars; rfl
   · simp
 rw [e]
 have hb : (w.alloc (.cells #[.int .i64 x] 3)).heap[w.heap.size]? = some (.cells #[.int .i64 x] 3 (0, 0)) := by
   show (w.heap.push _)[w.heap.size]? = _
   simp
 simp only [World.cell?, hb]
 simpa [i64v] using hj
end Go.Proofs.Ytkomnnijnggbpaa
/- A scope that no goto leaves, inside a fence. -/
namespace Go.Proofs.Ytkomnnijnggbpaa

section
variable {P : Program} {b : Frame} {a : Act} {k : List Item} {cs : List Frame} {w : World}
theorem stepR_scope {c : Code} : step P (lone (b.atR a (.code (.scope c) :: k)) cs w) = .next (lone (b.atR a (.code c :: .inScope c :: k)) cs w) :=
 step_lone_go (by simp [stepG, stepG.exec, Frame.atR])
theorem stepR_inScope {c : Code} : step P (lone (b.atR a (.inScope c :: k)) cs w) = .next (lone (b.atR a k) cs w) :=
 step_lone_go (by simp [stepG, stepG.exec, Frame.atR])
end

theorem wpIn_scope {F : Fence} {n : Nat} {P : Program} {Q : Exit → Act → World → Prop} {a : Act} {w : World} {c : Code} (h : c.wpIn F n P (Exit.noGoto Q) a w) : (Code.scope c).wpIn F n P Q a w := by
 intro b k cs hro hb hr
 have h0 : (lone (b.atR a (.code (.scope c) :: k)) cs w).fenced P F := fenced_calm hb hr rfl
 obtain ⟨e, a₁, w₁, hq, harr⟩ := h b (.inScope c :: k) cs hro hb hr
 cases e with
 | normal => exact ⟨.normal, a₁, w₁, hq, .head h0 stepR_scope (StepsIn.trans harr (.one (fenced_calm hb hr rfl) stepR_inScope))⟩
 | exit id =>
   have hx : exitTo id (.inScope c :: k) = exitTo id k := by simp [exitTo]
   exact ⟨.exit id, a₁, w₁, hq, fun k' hk => .head h0 stepR_scope (harr.1 k' (by rw [hx]; exact hk)),
     fun hr' hk => let ⟨k₁, h1, h2⟩ := harr.2 hr' (by rw [hx]; exact hk); ⟨k₁, h1, .head h0 stepR_scope h2⟩⟩
 | goto l => exact hq.elim
 | ret => exact ⟨_, a₁, w₁, hq, .of_steps (.one h0 stepR_scope) harr⟩
 | panic ch => exact ⟨_, a₁, w₁, hq, .of_steps (.one h0 stepR_scope) harr⟩
 | outgrown => exact ⟨_, a₁, w₁, hq, .of_steps (.one h0 stepR_scope) harr⟩
end Go.Proofs.Ytkomnnijnggbpaa
/- Entries as they are told one by one, and what a block is made of them. -/
namespace Go.Proofs.Ytkomnnijnggbpaa
open Go.RowKit
set_option linter.unusedVariables false

def entB (sh : Nat) (X : List UInt8) (z : Nat) (V : List UInt8) : List UInt8 := varB sh ++ (varB X.length ++ (varB z ++ (X ++ V)))
def zOf (G : Bool) (V : ByteArray) : Nat := 2 * V.size + (if G then 1 else 0)
structure Ent where
 place : Nat
 share : Nat
 rest : ByteArray
 gone : Bool
 value : ByteArray
 ok : place ≤ 50 ∧ share ≤ 38 ∧ rest.size ≤ 38 ∧ value.size ≤ 30
def entBytes (y : Ent) : List UInt8 := entB y.share y.rest.data.toList (zOf y.gone y.value) y.value.data.toList
def blkB (ys : List Ent) : List UInt8 := ys.flatMap entBytes
def stFrom (e : Nat) : Nat → List Ent → List UInt8
 | _, [] => []
 | pos, y :: r => (if y.place % e = 0 then fixB pos 2 else []) ++ stFrom e (pos + (entBytes y).length) r
theorem blkB_snoc (ys : List Ent) (y : Ent) : blkB (ys ++ [y]) = blkB ys ++ entBytes y := by simp [blkB]
theorem stFrom_snoc (e : Nat) : ∀ (ys : List Ent) (pos : Nat) (y : Ent), stFrom e pos (ys ++ [y]) = stFrom e pos ys ++ (if y.place % e = 0 then fixB (pos + (blkB ys).length) 2 else [])
 | [], pos, y => by simp [stFrom, blkB]
 | z :: ys, pos, y => by
   rw [List.cons_append, stFrom, stFrom, stFrom_snoc e ys _ y, List.append_assoc]
   have : (blkB (z :: ys)).length = (entBytes z).length + (blkB ys).length := by simp [blkB]
   rw [this, Nat.add_assoc]
theorem entBytes_len (y : Ent) : (entBytes y).length ≤ 71 := by
 obtain ⟨h1, h2, h3, h4⟩ := y.ok
 have l1 : y.rest.data.toList.length = y.rest.size := by simp
 have l2 : y.value.data.toList.length = y.value.size := by simp
 have hz : zOf y.gone y.value ≤ 61 := by unfold zOf; split <;> omega
 unfold entBytes entB
 rw [List.length_append, List.length_append, List.length_append, List.length_append, l1, l2, var_one (by omega), var_one (by omega), var_one (by omega)]
 omega
theorem blkB_len (ys : List Ent) : (blkB ys).length ≤ 71 * ys.length := by
 induction ys with
 | nil => simp [blkB]
 | cons y ys ih =>
   have : (blkB (y :: ys)).length = (entBytes y).length + (blkB ys).length := by simp [blkB]
   rw [this, List.length_cons]
   have := entBytes_len y
   omega
theorem stFrom_len (e : Nat) : ∀ (ys : List Ent) (pos : Nat), (stFrom e pos ys).length ≤ 2 * ys.length ∧ (stFrom e pos ys).length % 2 = 0
 | [], pos => by simp [stFrom]
 | y :: ys, pos => by
   have ih := stFrom_len e ys (pos + (entBytes y).length)
   unfold stFrom
   rw [List.length_append, List.length_cons]
   split
   · rw [fix_length]; omega
   · simp; omega
def EntsOf (e : Nat) (xs : List Cel) (n : Nat) (ys : List Ent) : Prop :=
 ys.length = n ∧ ∀ (k : Nat) (y : Ent) (x : Cel), ys[k]? = some y → xs[k]? = some x → y.place = k ∧ y.share = shareOf e k (lastOf [] (xs.take k)) (celKey x) ∧ y.rest.data.toList = (celKey x).drop y.share ∧ y.gone = x.gone ∧ y.value = x.value
theorem ents_nil (e : Nat) (xs : List Cel) : EntsOf e xs 0 [] := ⟨rfl, fun k y x h => by simp at h⟩
theorem ents_snoc {e : Nat} {xs : List Cel} {n : Nat} {ys : List Ent} {x : Cel} (h : EntsOf e xs n ys) (hx : xs[n]? = some x) (y : Ent) (h1 : y.place = n) (h2 : y.share = shareOf e n (lastOf [] (xs.take n)) (celKey x)) (h3 : y.rest.data.toList = (celKey x).drop y.share) (h4 : y.gone = x.gone) (h5 : y.value = x.value) : EntsOf e xs (n + 1) (ys ++ [y]) := by
 refine ⟨by simp [h.1], fun k z x' hz hx' => ?_⟩
 by_cases hk : k < n
 · rw [List.getElem?_append_left (by rw [h.1]; exact hk)] at hz
   exact h.2 k z x' hz hx'
 · rw [List.getElem?_append_right (by rw [h.1]; omega), h.1] at hz
   have : k = n := by
     have := (List.getElem?_eq_some_iff.1 hz).1
     simp at this
     omega
   subst this
   rw [hx] at hx'
   cases hx'
   simp at hz
   subst hz
   exact ⟨h1, h2, h3, h4, h5⟩
theorem ents_take {e : Nat} {xs : List Cel} {n : Nat} {ys : List Ent} (h : EntsOf e xs n ys) (hn : n ≤ xs.length) : ∀ k, k ≤ n → blkB (ys.take k) = entries e 0 [] (xs.take k) ∧ stFrom e 0 (ys.take k) = startsB e 0 0 [] (xs.take k)
 | 0, _ => by simp [blkB, entries, stFrom, startsB]
 | k + 1, hk => by
   have ih := ents_take h hn k (by omega)
   have hky : k < ys.length := by rw [h.1]; omega
   have hkx : k < xs.length := by omega
   obtain ⟨q1, q2, q3, q4, q5⟩ := h.2 k ys[k] xs[k] (List.getElem?_eq_getElem hky) (List.getElem?_eq_getElem hkx)
   have hy : ys.take (k + 1) = ys.take k ++ [ys[k]] := List.take_succ_eq_append_getElem hky
   have hx : xs[k]? = some xs[k] := List.getElem?_eq_getElem hkx
   have hb : entBytes ys[k] = entry e k (lastOf [] (xs.take k)) xs[k] := by
     unfold entBytes entB entry
     have hl := share_le e k (lastOf [] (xs.take k)) (celKey xs[k])
     rw [q3, q2, q4, q5, List.length_drop]
     rfl
   refine ⟨?_, ?_⟩
   · rw [hy, blkB_snoc, entries_step e hx, ih.1, hb]
   · rw [hy, stFrom_snoc, starts_step e hx, ih.2, ih.1, q1, Nat.zero_add]
theorem ents_block {e : Nat} {xs : List Cel} {ys : List Ent} (h : EntsOf e xs xs.length ys) : blkB ys = entries e 0 [] xs ∧ stFrom e 0 ys = startsB e 0 0 [] xs := by
 have := ents_take h (Nat.le_refl _) xs.length (Nat.le_refl _)
 rw [List.take_of_length_le (by rw [h.1]; exact Nat.le_refl _), List.take_length] at this
 exact this
theorem share_run {e st i : Nat} {xs : List Cel} {A k : List UInt8} (hst : st % e = 0) (hi : i < e) (hA : A = if i = 0 then [] else lastOf [] (xs.take (st + i))) : shared A k = shareOf e (st + i) (lastOf [] (xs.take (st + i))) k := by
 unfold shareOf
 have hm : (st + i) % e = i := by rw [Nat.add_mod, hst, Nat.zero_add, Nat.mod_mod, Nat.mod_eq_of_lt hi]
 rw [hm, hA]
 by_cases h0 : i = 0
 · rw [if_pos h0, if_pos h0]
   cases k <;> simp [shared]
 · rw [if_neg h0, if_neg h0]
def Where (w : World) (v v' : Value) : Prop := v'.ownBlock = v.ownBlock ∨ ∃ g, v'.ownBlock = some g ∧ w.heap.size ≤ g
theorem Where.refl (w : World) (v : Value) : Where w v v := .inl rfl
theorem Where.trans {w w1 : World} {v v1 v2 : Value} (h : Where w v v1) (hs : w.heap.size ≤ w1.heap.size) (k : Where w1 v1 v2) : Where w v v2 := by
 rcases k with k | ⟨g, k, kg⟩
 · rcases h with h | ⟨g, h, hg⟩
   · exact .inl (k.trans h)
   · exact .inr ⟨g, k.trans h, hg⟩
 · exact .inr ⟨g, k, by omega⟩
theorem Where.grow {w w1 w2 : World} {v v1 : Value} (h : Where w v v1) (g1 : w.grownBy w1 v.ownBlock) (g2 : w1.grownBy w2 v1.ownBlock) : w.grownBy w2 v.ownBlock :=
 ⟨g2.os.trans g1.os, g2.tape.trans g1.tape, g2.output.trans g1.output, Nat.le_trans g1.size g2.size, fun k hk hne => (g2.block k (by have := g1.size; omega) (by
   rcases h with h | ⟨g, h, hg⟩
   · rw [h]; exact hne
   · rw [h]; intro e; cases e; omega)).trans (g1.block k hk hne)⟩
theorem where_str {w w' : World} {v v' : Value} {base n : Nat} {xs : List Value} {ty : TypeId} {S : ByteArray} (hown : w.ownsRow base 5 1 v n xs) (hl : n + S.size < 1000000000)
   (hr : (Builtin.append_ #[22, 9] ty #[v, .string S]).run Try.prog w = .ok v' w') : Where w v v' := by
 obtain ⟨ti, hti, hz0, hz1, hz2⟩ := info_parts infoB
 have hxl : xs.length = n := by simpa using hown.1
 rcases hown.2 with ⟨rfl, rfl⟩ | ⟨g, cap, cur, rfl, hbg, hg, hnc, hcm, hcs, htake⟩
 · obtain ⟨v2, w2, hr2, h2, _, _⟩ := Lib.run_append_own_string (P := Try.prog) w w.heap.size 22 9 ty 5 ti Try.underlying22 Try.underlying9 hti hz0 hz1 hz2 (.slice none 0 0) 0 [] (World.ownsRow_nil _ _ _ _) S (by unfold maxLen; omega) (by omega) (Nat.le_refl _)
   rw [hr] at hr2
   cases hr2
   rcases h2.2 with ⟨rfl, _⟩ | ⟨g, cap, cur, rfl, hbg, _⟩
   · exact .inl rfl
   · exact .inr ⟨g, rfl, hbg⟩
 · by_cases hroom : n + S.size ≤ cap
   · have hcs' : cur.size = cap := by simpa using hcs
     have hr2 := Lib.run_append_room_string (P := Try.prog) w 22 9 ty 5 ti Try.underlying22 Try.underlying9 hti hz1 g n cap cur hg S hroom (by omega)
     rw [hr] at hr2
     cases hr2
     exact .inl rfl
   · have holds : ∀ j u, xs[j]? = some u → w.cell? ((⟨g, 0, none⟩ : Addr).add j) = some u := hown.cells (g := g) rfl
     have hr2 := Lib.run_append_grow_string (P := Try.prog) w 22 9 ty 5 ti (.int .u8 0) Try.underlying22 Try.underlying9 hti hz0 ⟨g, 0, none⟩ n cap xs (by rw [hz1]; simpa using hxl) holds S (by omega) (by omega) (by rw [hz2]; exact growslice_fits (by omega) (by omega))
     rw [hr] at hr2
     cases hr2
     exact .inr ⟨_, rfl, Nat.le_refl _⟩
theorem op_pushA {w0 w : World} {v : Value} {xs : List UInt8} (S : ByteArray) {o : Oper} {act : Act} {K : Act → World → Prop} {Q : Exit → Act → World → Prop} (s x : Operand)
   (hop : o.op = .call { callee := .builtin .append, args := #[s, x], argTypes := #[22, 9] })
   (hs : act.eval s = v) (hx : act.eval x = .string S) (t : BRow w0 w v xs) (hl : xs.length + S.size < 1000000000)
   (hk : ∀ v' w', BRow w0 w' v' (xs ++ S.data.toList) → w.grownBy w' v.ownBlock → Where w v v' → K (act.put o.dst v') w') : o.wp Try.prog act w K Q := by
 obtain ⟨ti, hti, hz0, hz1, hz2⟩ := info_parts infoB
 obtain ⟨v', w', hr, h2, h3, h4⟩ := Lib.run_append_own_string (P := Try.prog) w w0.heap.size 22 9 o.type 5 ti Try.underlying22 Try.underlying9 hti hz0 hz1 hz2 v xs.length (xs.map u8v) t.row S (by unfold maxLen; omega) (by omega) t.below.size
 have hw := where_str t.row hl hr
 unfold Oper.wp execOp
 simp only [hop, resolve, invoke, builtin, Sem.run_bind, Sem.run_pure, Result.andThen_ok, List.map_toArray, List.map_cons, List.map_nil, hs, hx, hr]
 refine hk _ _ (t.more S.data.toList ?_ h3) h3 hw
 rw [strCells_u8] at h2
 simpa using h2
theorem BRow.under {w0 w w' : World} {v : Value} {xs : List UInt8} (t : BRow w0 w v xs) (hb : Below w.heap.size w w') : BRow w0 w' v xs := by
 refine ⟨⟨t.row.1, ?_⟩, t.below.trans (hb.mono t.below.size)⟩
 rcases t.row.2 with h2 | ⟨g, cap, cur, h1, h2, h3, r⟩
 · exact .inl h2
 · exact .inr ⟨g, cap, cur, h1, h2, (hb.block g (Array.getElem?_eq_some_iff.1 h3).1).trans h3, r⟩
theorem grown_under {w w' : World} (h : Below w.heap.size w w') (row : Option Nat) : w.grownBy w' row := ⟨h.os, h.tape, h.output, h.size, fun j hj _ => h.block j hj⟩
theorem grown_then {w w1 w2 : World} {row : Option Nat} (g : w.grownBy w1 row) (h : Below w1.heap.size w1 w2) : w.grownBy w2 row :=
 ⟨h.os.trans g.os, h.tape.trans g.tape, h.output.trans g.output, Nat.le_trans g.size h.size, fun k hk hne => (h.block k (by have := g.size; omega)).trans (g.block k hk hne)⟩
theorem blk4 {w : World} {g T : Nat} {a0 a1 a2 a3 : Value} (h : w.heap[g]? = some (.cells #[a0, a1, a2, a3] T (0, 0))) : w.cell? ⟨g, 0, none⟩ = some a0 ∧ w.cell? ⟨g, 1, none⟩ = some a1 ∧ w.cell? ⟨g, 2, none⟩ = some a2 ∧ w.cell? ⟨g, 3, none⟩ = some a3 := by
 refine ⟨?_, ?_, ?_, ?_⟩ <;> simp [World.cell?, h]
theorem blk5 {w : World} {g T : Nat} {a0 a1 a2 a3 a4 : Value} (h : w.heap[g]? = some (.cells #[a0, a1, a2, a3, a4] T (0, 0))) : One5 g a0 a1 a2 a3 a4 w ∧ w.frozen? ⟨g, 0, none⟩ = false ∧ w.frozen? ⟨g, 1, none⟩ = false ∧ w.frozen? ⟨g, 2, none⟩ = false ∧ w.frozen? ⟨g, 3, none⟩ = false ∧ w.frozen? ⟨g, 4, none⟩ = false := by
 refine ⟨⟨?_, ?_, ?_, ?_, ?_⟩, ?_, ?_, ?_, ?_, ?_⟩
 all_goals first | (simp only [World.cell?, h]; rfl) | simp [World.frozen?, h]
end Go.Proofs.Ytkomnnijnggbpaa
/- A drawn region inside a fence, in a round too: what only reads, where a condition on the worlds holds, is taken first. -/
namespace Go.Proofs.Ytkomnnijnggbpaa
open Go
set_option linter.unusedVariables false
section
variable {F : Fence} {n : Nat} {P : Program} {md : Region.Mode} {ops : Array Oper} {Q : Exit → Act → World → Prop} {S : World → Prop}

def noDefer (ops : Array Oper) : Bool := ops.all fun o => match o.op with | .defer _ => false | _ => true
theorem noDefer_spec (h : noDefer ops = true) : ∀ (j : Nat) (o : Oper) c, ops[j]? = some o → o.op ≠ .defer c := by
 intro j o c hj e
 have hm := Array.mem_of_getElem? hj
 have := Array.all_eq_true_iff_forall_mem.1 h o hm
 simp [e] at this
def YieldsS (P : Program) (ops : Array Oper) (S : World → Prop) (o : Oper) (v : Value) (a : Act) : Prop :=
 ((Region.wanted o (yielded ops a.tmps) = true ∧ ∀ w, S w → (execOp a.eval o).run P w = .ok (.value v) w) ∨ (Region.wanted o (yielded ops a.tmps) = false ∧ v = undef)) ∧ ∀ w, o.about P w a.eval = none
theorem YieldsS.of_same {o : Oper} {v : Value} {a a' : Act} (hy : YieldsS P ops S o v a) (he : execOp a'.eval o = execOp a.eval o)
   (hw : Region.wanted o (yielded ops a'.tmps) = Region.wanted o (yielded ops a.tmps)) (hb : ∀ w, o.about P w a'.eval = o.about P w a.eval) : YieldsS P ops S o v a' := by
 refine ⟨?_, fun w => by rw [hb w]; exact hy.2 w⟩
 rw [hw, he]
 exact hy.1
theorem YieldsS.upon {i : Nat} {o : Oper} {v : Value} {a : Act} (hnd : ∀ (j : Nat) (o : Oper) c, ops[j]? = some o → o.op ≠ .defer c) (hi : ops[i]? = some o) (hy : YieldsS P ops S o v a)
   {K : Act → World → Prop} {w : World} (hS : S w) (h : K (a.put o.dst v) w) : wpOpIn F n P ops Q i K a w := by
 unfold Go.wpOpIn
 simp only [hi]
 have hab : ∀ f, o.about P w a.eval = some f → F.fn f := fun f hf => by rw [hy.2 w] at hf; cases hf
 rcases hy.1 with ⟨hw, hv⟩ | ⟨hw, rfl⟩
 · simp only [hw, if_true, Oper.wpIn, Oper.semAt_eq F.round a.eval o (fun c => hnd i o c hi), hv w hS, Oper.uponIn]; exact ⟨hab, h⟩
 · simp only [hw, Bool.false_eq_true, if_false]; exact ⟨hab, h⟩
theorem wpOpIn_putS {j : Nat} {oi oj : Oper} {v : Value} (hnd : ∀ (j : Nat) (o : Oper) c, ops[j]? = some o → o.op ≠ .defer c) (hj : ops[j]? = some oj) (hap : oi.apart ops oj = true)
   (hsi : ∀ cs b, oi.op ≠ .select cs b) (hsj : ∀ cs b, oj.op ≠ .select cs b)
   (hQ : ∀ c a w, Q (.panic c) (a.put oi.dst v) w → Q (.panic c) a w) {K : Act → World → Prop} {a : Act} {w : World}
   (hy : YieldsS P ops S oi v a) (h : wpOpIn F n P ops Q j K (a.put oi.dst v) w) :
   wpOpIn F n P ops Q j (fun a' w' => YieldsS P ops S oi v a' ∧ K (a'.put oi.dst v) w') a w := by
 obtain ⟨h1, h2, h3⟩ := Oper.apart_spec hap
 have keep : ∀ (a : Act), YieldsS P ops S oi v a → ∀ u, YieldsS P ops S oi v (a.put oj.dst u) := fun a hy u =>
   hy.of_same (execOp_put oi hsi a oj.dst u h3) (wanted_put oi a oj.dst u h3) (fun w => about_put oi w a oj.dst u h3)
 have keepD : ∀ d, YieldsS P ops S oi v { a with defers := d :: a.defers } := fun d => hy.of_same rfl rfl (fun _ => rfl)
 have hd := fun c => hnd j oj c hj
 unfold wpOpIn at *
 simp only [hj] at *
 rw [wanted_put oj a oi.dst v h1, about_put oj w a oi.dst v h1] at h
 split
 · rename_i hw
   simp only [hw, if_true] at h
   unfold Oper.wpIn at *
   rw [about_put oj w a oi.dst v h1] at h
   refine ⟨h.1, ?_⟩
   have h := h.2
   rw [Oper.semAt_eq F.round _ oj hd, execOp_put oj hsj a oi.dst v h1] at h
   rw [Oper.semAt_eq F.round _ oj hd]
   generalize (execOp a.eval oj).run P w = r at *
   cases r with
   | ok x w' =>
     cases x <;> simp only [Oper.uponIn] at h ⊢
     case value u => exact ⟨keep a hy u, by rw [← Act.put_comm a v u h2]; exact h⟩
     case skip => exact ⟨keep a hy _, by rw [← Act.put_comm a v undef h2]; exact h⟩
     case defer d =>
       refine ⟨keep _ (keepD d) _, ?_⟩
       rw [← Act.put_comm _ v undef h2, ← Act.put_defers]
       exact h
     case enter f args =>
       refine ⟨h.1, CallsIn.mono h.2 fun e w'' he => ?_⟩
       cases e with
       | returned u => exact ⟨keep a hy u, by rw [← Act.put_comm a v u h2]; exact he⟩
       | panicked c => exact hQ _ _ _ he
       | outgrown => exact he
     case row row args => exact ⟨h.1, RowsIn.mono h.2 fun u w'' he => ⟨keep a hy u, by rw [← Act.put_comm a v u h2]; exact he⟩⟩
     case round l f tmps assign body =>
       refine ⟨h.1, RoundIn.mono h.2 fun e w'' he => ?_⟩
       cases e with
       | returned u => exact ⟨keep a hy u, by rw [← Act.put_comm a v u h2]; exact he⟩
       | panicked c => exact hQ _ _ _ he
       | outgrown => exact he
   | halt x w' =>
     cases x <;> simp only [Oper.uponIn] at h ⊢
     case panic u => exact hQ _ _ _ h
 · rename_i hw
   simp only [hw] at h
   exact ⟨h.1, keep a hy _, by rw [← Act.put_comm a v undef h2]; exact h.2⟩

def wpAnyInS (F : Fence) (n : Nat) (P : Program) (md : Region.Mode) (ops : Array Oper) (Q : Exit → Act → World → Prop) (S : World → Prop) (z : Option Nat) : Nat → Array Bool → Act → World → Prop
 | 0, listed, a, w => Region.ready md ops listed = [] ∧ Q .normal a w
 | fuel + 1, listed, a, w =>
   (Region.ready md ops listed = [] → Q .normal a w) ∧
   ∀ i ∈ Region.ready md ops listed, wpOpIn F n P ops Q i (fun a' w' => (some i ≠ z → S w') ∧ wpAnyInS F n P md ops Q S z fuel (listed.setIfInBounds i true) a' w') a w
variable {z : Option Nat}
theorem wpAnyInS_plain : ∀ (fuel : Nat) (listed : Array Bool) (a : Act) (w : World), wpAnyInS F n P md ops Q S z fuel listed a w → wpAnyIn F n P md ops Q fuel listed a w
 | 0, _, _, _, h => h
 | fuel + 1, listed, a, w, h => ⟨h.1, fun i hi => wpOpIn_mono (fun a' w' h' => wpAnyInS_plain fuel _ a' w' h'.2) (h.2 i hi)⟩
def lastWaits (md : Region.Mode) (ops : Array Oper) (z : Option Nat) (i : Nat) : Bool :=
 match z with
 | none => true
 | some j => match ops[j]? with
   | none => true
   | some o => o.after.any fun e => Region.binds md e && e.on == i
theorem lastWaits_spec {i j : Nat} {o : Oper} (h : lastWaits md ops (some j) i = true) (hj : ops[j]? = some o) : ∃ e ∈ o.after, Region.binds md e = true ∧ e.on = i := by
 unfold lastWaits at h
 simp only [hj] at h
 obtain ⟨k, hk, h⟩ := Array.any_eq_true.1 h
 rw [Bool.and_eq_true, beq_iff_eq] at h
 exact ⟨_, Array.getElem_mem hk, h.1, h.2⟩
theorem wpAnyInS_first {i : Nat} {oi : Oper} {v : Value} (hnd : ∀ (j : Nat) (o : Oper) c, ops[j]? = some o → o.op ≠ .defer c) (hz : lastWaits md ops z i = true) (hi : ops[i]? = some oi) (hsel : ∀ (j : Nat) (o : Oper) cs b, ops[j]? = some o → o.op ≠ .select cs b)
   (hQ : ∀ c a w, Q (.panic c) (a.put oi.dst v) w → Q (.panic c) a w) :
   ∀ (fuel : Nat) (listed : Array Bool) (a : Act) (w : World),
     (∀ j oj, ops[j]? = some oj → j ≠ i → listed.getD j true = false → (∀ e ∈ oj.after, Region.binds md e = true → e.on ≠ i) → oi.apart ops oj = true) →
     i ∈ Region.ready md ops listed → YieldsS P ops S oi v a → S w →
     wpAnyInS F n P md ops Q S z fuel (listed.setIfInBounds i true) (a.put oi.dst v) w → wpAnyInS F n P md ops Q S z (fuel + 1) listed a w := by
 intro fuel
 induction fuel with
 | zero =>
   intro listed a w _ hr hy hS H
   refine ⟨fun h => (by rw [h] at hr; cases hr), fun j hj => ?_⟩
   by_cases hji : j = i
   · subst hji; exact hy.upon hnd hi hS ⟨fun _ => hS, H⟩
   · have := ready_mono hj hji
     rw [H.1] at this
     cases this
 | succ fuel ih =>
   intro listed a w hfree hr hy hS H
   refine ⟨fun h => (by rw [h] at hr; cases hr), fun j hj => ?_⟩
   by_cases hji : j = i
   · subst hji; exact hy.upon hnd hi hS ⟨fun _ => hS, H⟩
   · have h1 := H.2 j (ready_mono hj hji)
     obtain ⟨hjun, oj, hoj, hall⟩ := mem_ready.1 hj
     have hnot : ∀ e ∈ oj.after, Region.binds md e = true → e.on ≠ i := fun e he hb heq => by
       have h1 := hall e he hb
       have h0 := (mem_ready.1 hr).1
       rw [heq] at h1
       rcases Nat.lt_or_ge i listed.size with h' | h'
       · simp [h'] at h0 h1; rw [h0] at h1; cases h1
       · simp [Array.getElem?_eq_none h'] at h1
     have hjz : some j ≠ z := fun e => by
       subst e
       obtain ⟨e, he, hb, ho⟩ := lastWaits_spec hz hoj
       exact hnot e he hb ho
     have h2 := wpOpIn_putS hnd hoj (hfree j oj hoj hji hjun hnot) (fun cs b => hsel i oi cs b hi) (fun cs b => hsel j oj cs b hoj) hQ hy h1
     have hfree' : ∀ k ok, ops[k]? = some ok → k ≠ i → (listed.setIfInBounds j true).getD k true = false →
         (∀ e ∈ ok.after, Region.binds md e = true → e.on ≠ i) → oi.apart ops ok = true := fun k ok hk hki hun hno => by
       refine hfree k ok hk hki ?_ hno
       by_cases hjk : j = k
       · subst hjk; exact hjun
       · rw [getD_set_ne true hjk] at hun; exact hun
     refine wpOpIn_mono (fun a' w' h3 => ⟨fun _ => h3.2.1 hjz, ih (listed.setIfInBounds j true) a' w' hfree' (ready_mono hr (Ne.symm hji)) h3.1 (h3.2.1 hjz) ?_⟩) h2
     rw [Array.setIfInBounds_comm _ _ hji]
     exact h3.2.2

theorem takeI {i : Nat} {oi : Oper} {d : Option Nat} {v : Value} {fuel : Nat} {listed : Array Bool} {a : Act} {w : World} (hi : ops[i]? = some oi) (hd : oi.dst = d) (hs : Region.noSelect ops = true) (hnd : noDefer ops = true) (hz : lastWaits md ops z i = true)
   (hf : Region.free md ops listed i = true) (hr : (Region.ready md ops listed).contains i = true) (hQ : ∀ c a w, Q (.panic c) (a.put oi.dst v) w → Q (.panic c) a w) (hw : Region.wanted oi (yielded ops a.tmps) = true) (hb : ∀ w, oi.about P w a.eval = none)
   (hy : ∀ w, S w → (execOp a.eval oi).run P w = .ok (.value v) w) (hS : S w) (h : wpAnyInS F n P md ops Q S z fuel (listed.setIfInBounds i true) (a.put d v) w) : wpAnyInS F n P md ops Q S z (fuel + 1) listed a w := by
 subst hd
 exact wpAnyInS_first (noDefer_spec hnd) hz hi (Region.noSelect_spec hs) hQ fuel listed a w (Region.free_spec hi hf) (by simpa using hr) ⟨Or.inl ⟨hw, hy⟩, hb⟩ hS h
def AllReadyInS (F : Fence) (n : Nat) (P : Program) (md : Region.Mode) (ops : Array Oper) (Q : Exit → Act → World → Prop) (S : World → Prop) (z : Option Nat) (fuel : Nat) (listed : Array Bool) (a : Act) (w : World) (rs : List Nat) : Prop :=
 ∀ i ∈ rs, wpOpIn F n P ops Q i (fun a' w' => (some i ≠ z → S w') ∧ wpAnyInS F n P md ops Q S z fuel (listed.setIfInBounds i true) a' w') a w
theorem AllReadyInS.nil {fuel : Nat} {listed : Array Bool} {a : Act} {w : World} : AllReadyInS F n P md ops Q S z fuel listed a w [] := fun _ h => by cases h
theorem AllReadyInS.cons {fuel : Nat} {listed : Array Bool} {a : Act} {w : World} {i : Nat} {o : Oper} {rs : List Nat} (ho : ops[i]? = some o)
   (h : ∀ K' : Act → World → Prop, Shut (∀ a w, (some i ≠ z → S w) → wpAnyInS F n P md ops Q S z fuel (listed.setIfInBounds i true) a w → K' a w) → if Region.wanted o (yielded ops a.tmps) = true then Oper.wpIn F n P o a w K' Q else (∀ f, o.about P w a.eval = some f → F.fn f) ∧ K' (a.put o.dst undef) w)
   (hs : AllReadyInS F n P md ops Q S z fuel listed a w rs) : AllReadyInS F n P md ops Q S z fuel listed a w (i :: rs) := fun j hj => by
 rcases List.mem_cons.1 hj with rfl | hj
 · exact wpOpIn_step ho (fun K' hK => h K' (fun a w hS hW => hK a w ⟨hS, hW⟩))
 · exact hs j hj
theorem readyI {rs : List Nat} {fuel : Nat} {listed : Array Bool} {a : Act} {w : World} (hr : Region.ready md ops listed = rs) (hne : rs ≠ [])
   (h : AllReadyInS F n P md ops Q S z fuel listed a w rs) : wpAnyInS F n P md ops Q S z (fuel + 1) listed a w :=
 ⟨fun h0 => absurd (hr ▸ h0) hne, hr ▸ h⟩
theorem doneI {listed : Array Bool} {a : Act} {w : World} (hr : Region.ready md ops listed = []) (h : Q .normal a w) : ∀ fuel, wpAnyInS F n P md ops Q S z fuel listed a w
 | 0 => ⟨hr, h⟩
 | _ + 1 => ⟨fun _ => h, by rw [hr]; simp⟩
theorem regionI {id : Nat} {a : Act} {w : World} (S : World → Prop) (z : Option Nat) (hm : P.follows .mixedOrders = true) (h : wpAnyInS F n P .any ops Q S z ops.size (Array.replicate ops.size false) a w.drew) : (Code.region id ops true).wpIn F n P Q a w :=
 wpIn_region_any hm (wpAnyInS_plain _ _ _ _ h)
end
end Go.Proofs.Ytkomnnijnggbpaa
