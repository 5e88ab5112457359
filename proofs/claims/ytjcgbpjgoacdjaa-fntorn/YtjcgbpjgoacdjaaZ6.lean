/- Plain mathematics: a bit turned in bytes. -/
import Derived.Test.YtjcgbpjgoacdjaaZ0
namespace Go.Proofs.Ytjcgbpjgoacdjaa
open Go.RowKit
set_option linter.unusedVariables false

theorem bent_zero (l : List UInt8) : Bent 0 l l := by
 induction l with
 | nil => trivial
 | cons a l ih => exact ⟨by simp, by simpa using ih⟩

end Go.Proofs.Ytjcgbpjgoacdjaa
/- A byte that was changed is told by the sum. -/
namespace Go.Proofs.Ytjcgbpjgoacdjaa
open Go
set_option linter.unusedVariables false

theorem bent_byte (i : Nat) : ∀ (l : List UInt8) (c : UInt8), i < l.length → Bent (2 ^ (8 * i) * ((l.getD i 0).toNat ^^^ c.toNat)) l (l.set i c) := by
 induction i with
 | zero =>
   intro l c hi
   cases l with
   | nil => simp at hi
   | cons a l =>
     have h1 : a.toNat ^^^ c.toNat < 2 ^ 8 := Nat.xor_lt_two_pow a.toNat_lt c.toNat_lt
     simp only [List.getD_cons_zero, List.set_cons_zero, Nat.mul_zero, Nat.pow_zero, Nat.one_mul]
     refine ⟨?_, ?_⟩
     · rw [Nat.mod_eq_of_lt h1, ← Nat.xor_assoc, Nat.xor_self, Nat.zero_xor]
     · rw [Nat.div_eq_of_lt h1]; exact bent_zero l
 | succ i ih =>
   intro l c hi
   cases l with
   | nil => simp at hi
   | cons a l =>
     have := ih l c (by simpa using hi)
     simp only [List.getD_cons_succ, List.set_cons_succ]
     have ep : 2 ^ (8 * (i + 1)) * ((l.getD i 0).toNat ^^^ c.toNat) = 256 * (2 ^ (8 * i) * ((l.getD i 0).toNat ^^^ c.toNat)) := by
       rw [show 8 * (i + 1) = 8 + 8 * i by omega, Nat.pow_add, Nat.mul_assoc]
     rw [ep]
     generalize 2 ^ (8 * i) * ((l.getD i 0).toNat ^^^ c.toNat) = E at this
     refine ⟨?_, ?_⟩
     · have : 256 * E % 256 = 0 := by omega
       rw [this, Nat.xor_zero]
     · have e : 256 * E / 256 = E := by omega
       rw [e]; exact this

theorem crc_byte (l : List UInt8) (i : Nat) (c : UInt8) (hi : i < l.length) (hc : (l.getD i 0) ≠ c) : crc (l.set i c) ≠ crc l := by
 have h1 : (l.getD i 0).toNat ^^^ c.toNat < 2 ^ 8 := Nat.xor_lt_two_pow (l.getD i 0).toNat_lt c.toNat_lt
 have h0 : (l.getD i 0).toNat ^^^ c.toNat ≠ 0 := fun h => hc (UInt8.toNat_inj.1 (xor_eq_zero h))
 refine bent_told l (l.set i c) (8 * i) _ (bent_byte i l c hi) (by omega) ?_ (by omega)
 have hp : 2 ^ 8 ≤ 2 ^ (8 * l.length - 8 * i) := Nat.pow_le_pow_right (by omega) (by omega)
 rw [Nat.mod_eq_of_lt (by omega)]
 exact h0
end Go.Proofs.Ytjcgbpjgoacdjaa
/- More of logs: torn ones, changed ones, records of nothing, pieces. -/
namespace Go.Proofs.Ytjcgbpjgoacdjaa
open Go.RowKit
set_option linter.unusedVariables false

theorem recs_take {rs : List (List UInt8)} (h : recsOk rs) (k : Nat) : recsOk (rs.take k) := fun r hr => h r (List.mem_of_mem_take hr)
theorem log_part (rs : List (List UInt8)) (k : Nat) : ∃ x, logB rs = logB (rs.take k) ++ x := by
 refine ⟨logFrom ((logB (rs.take k)).length) (rs.drop k), ?_⟩
 have h := logFrom_app (rs.take k) (rs.drop k) 0
 rw [List.take_append_drop, Nat.zero_add] at h
 exact h
theorem log_mono {rs ts : List (List UInt8)} (h : ts <+: rs) : (logB ts).length ≤ (logB rs).length := by
 obtain ⟨us, rfl⟩ := h
 unfold logB
 rw [logFrom_app, List.length_append]
 omega
theorem longest_torn {rs : List (List UInt8)} (h : recsOk rs) {n k : Nat} (hk : k ≤ rs.length) (h1 : (logB (rs.take k)).length ≤ n) (h2 : k = rs.length ∨ n < (logB (rs.take (k + 1))).length) : Longest ((logB rs).take n) (rs.take k) := by
 refine ⟨recs_take h k, ?_, fun ts hts hp => ?_⟩
 · obtain ⟨x, hx⟩ := log_part rs k
   rw [hx, List.take_append, List.take_of_length_le h1]
   exact List.prefix_append _ _
 · have h3 := (longest_log h).2.2 ts hts (hp.trans (List.take_prefix _ _))
   have h4 := hp.length_le
   rw [List.length_take] at h4
   have h5 : ts.length ≤ k := by
     by_cases e : ts.length ≤ k
     · exact e
     · exfalso
       rcases h2 with h2 | h2
       · have := h3.length_le
         omega
       · have h6 : rs.take (k + 1) <+: ts := by
           rw [List.prefix_iff_eq_take.1 h3]
           exact (List.take_prefix_take_left (show k + 1 ≤ ts.length by omega))
         have := log_mono h6
         omega
   rw [List.prefix_iff_eq_take.1 h3]
   exact List.take_prefix_take_left h5
theorem rec_frag (n : Nat) (first : Bool) (r : List UInt8) : ∃ k t z, 1 ≤ k ∧ k ≤ 4 ∧ t.length ≤ 57 ∧ putRec n first r = List.replicate (padAt n) 0 ++ (fragB k t ++ z) := by
 have hr := room_le n
 by_cases h : r.length ≤ roomAt n
 · exact ⟨if first then 1 else 4, r, [], by split <;> omega, by split <;> omega, by omega, by rw [putRec_fits h, List.append_nil]⟩
 · exact ⟨if first then 2 else 3, r.take (roomAt n), _, by split <;> omega, by split <;> omega, by rw [List.length_take]; omega, putRec_more h⟩
theorem getD_set_same {l : List UInt8} {i : Nat} {v : UInt8} (hi : i < l.length) : (l.set i v).getD i 0 = v := by
 rw [List.getD_eq_getElem?_getD, List.getElem?_set_self hi]
 rfl
theorem twist_frag {k k' : Nat} {t t' x y : List UInt8} {i : Nat} {v : UInt8} (hk : k < 256) (hk' : k' < 256) (ht : t.length ≤ 57) (ht' : t'.length ≤ 57) (hi : i < 4 ∨ (6 ≤ i ∧ i < t.length + 7)) (hv : (fragB k t).getD i 0 ≠ v) : (fragB k t ++ x).set i v ≠ fragB k' t' ++ y := by
 intro h
 have hl := frag_len k t
 rw [List.set_append, if_pos (by omega)] at h
 obtain ⟨b, hb⟩ : ∃ b, UInt8.ofNat k :: t = b := ⟨_, rfl⟩
 obtain ⟨b', hb'⟩ : ∃ b, UInt8.ofNat k' :: t' = b := ⟨_, rfl⟩
 have hbl : b.length = t.length + 1 := by rw [← hb]; rfl
 have hbl' : b'.length = t'.length + 1 := by rw [← hb']; rfl
 unfold fragB at h hv
 rw [hb, hb'] at h
 rw [hb] at hv
 have L4 := fix_length (crc b) 4
 have L4' := fix_length (crc b') 4
 have L2 := fix_length t.length 2
 have L2' := fix_length t'.length 2
 rcases hi with hi | hi
 · rw [List.set_append, if_pos (by omega), List.append_assoc, List.append_assoc, List.append_assoc, List.append_assoc] at h
   obtain ⟨h1, h⟩ := List.append_inj h (by rw [List.length_set]; omega)
   obtain ⟨h2, h⟩ := List.append_inj h (by omega)
   have h3 := fix_inj h2
   rw [Nat.mod_eq_of_lt (by omega), Nat.mod_eq_of_lt (by omega)] at h3
   obtain ⟨h4, _⟩ := List.append_inj h (by omega)
   rw [h4] at h1
   rw [List.getD_eq_getElem?_getD, List.getElem?_append_left (by omega), ← List.getD_eq_getElem?_getD, h4] at hv
   have h5 := getD_set_same (l := fixB (crc b) 4) (i := i) (v := v) (by omega)
   rw [h4, h1] at h5
   exact hv h5
 · rw [List.set_append, if_neg (by omega), List.set_append, if_neg (by omega), List.append_assoc, List.append_assoc, List.append_assoc, List.append_assoc] at h
   obtain ⟨h1, h⟩ := List.append_inj h (by omega)
   obtain ⟨h2, h⟩ := List.append_inj h (by omega)
   have h3 := fix_inj h2
   rw [Nat.mod_eq_of_lt (by omega), Nat.mod_eq_of_lt (by omega)] at h3
   rw [L4, L2] at h
   obtain ⟨h4, _⟩ := List.append_inj h (by rw [List.length_set]; omega)
   have h5 := fix_inj h1
   have c1 := crc_lt b
   have c2 := crc_lt b'
   rw [Nat.mod_eq_of_lt (by omega), Nat.mod_eq_of_lt (by omega), ← h4] at h5
   rw [List.getD_eq_getElem?_getD, List.getElem?_append_right (by omega), List.getElem?_append_right (by omega), ← List.getD_eq_getElem?_getD, L4, L2] at hv
   exact crc_byte b (i - 4 - 2) v (by omega) hv h5.symm
theorem longest_twist {r : List UInt8} {rs : List (List UInt8)} {k : Nat} {t z : List UInt8} (hk : k ≤ 4) (ht : t.length ≤ 57) (hr : logB (r :: rs) = fragB k t ++ z) {i : Nat} {v : UInt8} (hi : i < 4 ∨ (6 ≤ i ∧ i < t.length + 7)) (hv : (logB (r :: rs)).getD i 0 ≠ v) : Longest ((logB (r :: rs)).set i v) [] := by
 refine longest_stop (fun r hr => by simp at hr) (x := (logB (r :: rs)).set i v) (by simp [logB, logFrom]) (fun r' y hr' e => ?_)
 obtain ⟨k', t', z', _, g2, g3, g4⟩ := rec_frag 0 true r'
 have h0 : (logB []).length = 0 := rfl
 have hp : padAt 0 = 0 := (room_zero rfl).1
 rw [h0, g4, hp, List.replicate_zero, List.nil_append, List.append_assoc, hr] at e
 rw [hr] at hv
 have hl := frag_len k t
 rw [List.getD_eq_getElem?_getD, List.getElem?_append_left (by omega), ← List.getD_eq_getElem?_getD] at hv
 exact twist_frag (by omega) (by omega) ht g3 hi hv e
theorem log_first (r : List UInt8) (rs : List (List UInt8)) : ∃ k t z, 1 ≤ k ∧ k ≤ 4 ∧ t.length ≤ 57 ∧ logB (r :: rs) = fragB k t ++ z := by
 obtain ⟨k, t, z, h1, h2, h3, h4⟩ := rec_frag 0 true r
 have hp : padAt 0 = 0 := (room_zero rfl).1
 rw [hp, List.replicate_zero, List.nil_append] at h4
 exact ⟨k, t, z ++ logFrom (0 + (putRec 0 true r).length) rs, h1, h2, h3, by unfold logB; rw [logFrom, h4, List.append_assoc]⟩
def emptyLen (n : Nat) : Nat := n / 9 * 64 + n % 9 * 7 - (if 0 < n ∧ n % 9 = 0 then 1 else 0)
theorem empty_at (a b : Nat) (hb : b < 9) : emptyLen (9 * a + b) = if b = 0 then 64 * a - (if a = 0 then 0 else 1) else 64 * a + 7 * b := by
 unfold emptyLen
 rw [show (9 * a + b) / 9 = a by omega, show (9 * a + b) % 9 = b by omega]
 by_cases h : b = 0
 · subst h
   rw [if_pos rfl]
   by_cases ha : a = 0
   · subst ha; rfl
   · rw [if_pos ⟨by omega, rfl⟩, if_neg ha]; omega
 · rw [if_neg h, if_neg (fun e => h e.2)]; omega
theorem pad_at (x y : Nat) (h : y < 64) : padAt (64 * x + y) = if 64 - y < 7 then 64 - y else 0 := by
 unfold padAt leftAt
 rw [show (64 * x + y) % 64 = y by omega]
theorem empty_next (n : Nat) : emptyLen (n + 1) = emptyLen n + (padAt (emptyLen n) + 7) := by
 obtain ⟨a, b, hb, rfl⟩ : ∃ a b, b < 9 ∧ n = 9 * a + b := ⟨n / 9, n % 9, Nat.mod_lt _ (by omega), by omega⟩
 rw [empty_at a b hb]
 by_cases h0 : b = 0
 · subst h0
   rw [if_pos rfl, Nat.add_assoc, empty_at a (0 + 1) (by omega), if_neg (by omega)]
   by_cases ha : a = 0
   · subst ha; rfl
   · rw [if_neg ha, show 64 * a - 1 = 64 * (a - 1) + 63 by omega, pad_at _ _ (by omega), if_pos (by omega)]; omega
 · rw [if_neg h0, pad_at _ _ (by omega), if_neg (by omega)]
   by_cases h8 : b = 8
   · subst h8
     rw [show 9 * a + 8 + 1 = 9 * (a + 1) + 0 by omega, empty_at (a + 1) 0 (by omega), if_pos rfl, if_neg (by omega)]; omega
   · rw [Nat.add_assoc, empty_at a (b + 1) (by omega), if_neg (by omega)]; omega
theorem log_empties (n : Nat) : (logB (List.replicate n [])).length = emptyLen n := by
 induction n with
 | zero => rfl
 | succ n ih =>
   have h := log_snoc (rs := List.replicate n []) (r := []) (by simp)
   rw [List.replicate_succ', h, appendB, if_pos (by simp), List.length_append, putRec_fits (by simp), List.length_append, List.length_replicate, frag_len, ih]
   have he := empty_next n
   simp only [List.length_nil]
   omega
theorem no_pad {rs : List (List UInt8)} (h : recsOk rs) (c : UInt8) : ∀ ts, recsOk ts → logB ts ≠ logB rs ++ [c] := by
 intro ts hts e
 have e1 : logFrom 0 ts ++ [] = logFrom 0 rs ++ [c] := by rw [List.append_nil]; exact e
 rcases from_told ts rs 0 _ _ e1 with h1 | h1
 · have h2 := log_mono h1
   have h3 := congrArg List.length e
   rw [List.length_append] at h3
   simp at h3
   omega
 · obtain ⟨us, rfl⟩ := h1
   unfold logB at e
   rw [logFrom_app] at e
   have e2 := List.append_cancel_left e
   have h3 := congrArg List.length e2
   have h4 := logFrom_least us (0 + (logFrom 0 rs).length)
   cases us with
   | nil => simp [logFrom] at e2
   | cons u us =>
     simp only [List.length_cons, List.length_nil] at h3 h4
     omega
theorem rec_pieces (n : Nat) (first : Bool) (r : List UInt8) : ∀ q, q % 64 = 0 → n + padAt n ≤ q → q + 7 ≤ n + (putRec n first r).length → ∃ k t z, 1 ≤ k ∧ k ≤ 4 ∧ t.length ≤ 57 ∧ (putRec n first r).drop (q - n) = fragB k t ++ z := by
 induction n, first, r using putRec.induct with
 | case1 n first r h =>
   intro q h1 h2 h3
   have hr := room_le n
   have hp := pad_room n
   rw [putRec_fits h] at h3 ⊢
   rw [List.length_append, List.length_replicate, frag_len] at h3
   have e : q = n + padAt n := by
     unfold leftAt at hp
     omega
   refine ⟨if first then 1 else 4, r, [], by split <;> omega, by split <;> omega, by omega, ?_⟩
   rw [List.append_nil, List.drop_append, List.length_replicate, List.drop_of_length_le (by rw [List.length_replicate]; omega), show q - n - padAt n = 0 by omega]
   rfl
 | case2 n first r h ih =>
   intro q h1 h2 h3
   have hr := room_le n
   have hp := pad_room n
   have hz := room_zero (piece_end n)
   rw [putRec_more h] at h3 ⊢
   rw [List.length_append, List.length_replicate, List.length_append, frag_len, List.length_take] at h3
   by_cases e : q = n + padAt n
   · refine ⟨if first then 2 else 3, r.take (roomAt n), putRec (n + padAt n + 7 + roomAt n) false (r.drop (roomAt n)), by split <;> omega, by split <;> omega, by rw [List.length_take]; omega, ?_⟩
     rw [List.drop_append, List.length_replicate, List.drop_of_length_le (by rw [List.length_replicate]; omega), show q - n - padAt n = 0 by omega]
     rfl
   · have h4 : n + padAt n + 7 + roomAt n ≤ q := by
       unfold leftAt at hp
       omega
     obtain ⟨k, t, z, g1, g2, g3, g4⟩ := ih q h1 (by rw [hz.1]; omega) (by omega)
     refine ⟨k, t, z, g1, g2, g3, ?_⟩
     have hl := frag_len (if first then 2 else 3) (r.take (roomAt n))
     rw [List.length_take] at hl
     rw [List.drop_append, List.length_replicate, List.drop_of_length_le (by rw [List.length_replicate]; omega), List.nil_append, List.drop_append, List.drop_of_length_le (by omega), List.nil_append, ← g4]
     congr 1
     omega
end Go.Proofs.Ytjcgbpjgoacdjaa
