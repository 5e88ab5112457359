/- The numbers that are drawn come round to every number: the generator's period is whole. No condition. -/
import Derived.Test.YtjcgbpjgoacdjaaZ0
namespace Go.Proofs.Ytjcgbpjgoacdjaa
open Go.RowKit
set_option linter.unusedVariables false

def lcgN : Nat → Int → Int
 | 0, h => h
 | n + 1, h => lcgN n (lcg h)

theorem lcgN_add : ∀ (m n : Nat) (h : Int), lcgN (m + n) h = lcgN n (lcgN m h)
 | 0, n, h => by simp [lcgN]
 | m + 1, n, h => by rw [Nat.succ_add]; simp only [lcgN]; exact lcgN_add m n _

def fac : Nat → Nat × Nat
 | 0 => (6364136223846793005, 1442695040888963407)
 | j + 1 => (((fac j).1 * (fac j).1) % 18446744073709551616, ((fac j).1 * (fac j).2 + (fac j).2) % 18446744073709551616)

theorem lcg_mod (h : Int) : ∃ q : Int, lcg h = 6364136223846793005 * h + 1442695040888963407 + q * 18446744073709551616 := by
 unfold lcg wrap64
 refine ⟨-((h * 6364136223846793005 + 9223372036854775808) / 18446744073709551616) - (((h * 6364136223846793005 + 9223372036854775808) % 18446744073709551616 - 9223372036854775808 + 1442695040888963407 + 9223372036854775808) / 18446744073709551616), ?_⟩
 omega

theorem fac_step : ∀ (j : Nat) (h : Int), ∃ q : Int, lcgN (2 ^ j) h = (fac j).1 * h + (fac j).2 + q * 18446744073709551616
 | 0, h => by
   obtain ⟨q, hq⟩ := lcg_mod h
   exact ⟨q, by simp only [Nat.pow_zero, lcgN, fac]; exact hq⟩
 | j + 1, h => by
   have e : 2 ^ (j + 1) = 2 ^ j + 2 ^ j := by rw [Nat.pow_succ]; omega
   rw [e, lcgN_add]
   obtain ⟨q1, h1⟩ := fac_step j h
   obtain ⟨q2, h2⟩ := fac_step j (lcgN (2 ^ j) h)
   rw [h1] at h2
   rw [h1, h2]
   simp only [fac]
   generalize (fac j).1 = A at *
   generalize (fac j).2 = C at *
   refine ⟨(A : Int) * q1 + q2 + ((A * A / 18446744073709551616 : Nat) : Int) * h + ((A * C + C) / 18446744073709551616 : Nat), ?_⟩
   have e1 : ((A * A % 18446744073709551616 : Nat) : Int) = (A : Int) * A - ((A * A / 18446744073709551616 : Nat) : Int) * 18446744073709551616 := by
     have := Nat.div_add_mod (A * A) 18446744073709551616
     have h3 : ((A * A : Nat) : Int) = (A : Int) * A := by simp
     omega
   have e2 : (((A * C + C) % 18446744073709551616 : Nat) : Int) = (A : Int) * C + C - (((A * C + C) / 18446744073709551616 : Nat) : Int) * 18446744073709551616 := by
     have := Nat.div_add_mod (A * C + C) 18446744073709551616
     have h3 : ((A * C + C : Nat) : Int) = (A : Int) * C + C := by simp
     omega
   rw [e1, e2]
   generalize ((A * A / 18446744073709551616 : Nat) : Int) = U
   generalize (((A * C + C) / 18446744073709551616 : Nat) : Int) = V
   grind

theorem fac_odd : ∀ j : Fin 64, (fac j.val).1 % 2 ^ (j.val + 1) = 1 ∧ (fac j.val).2 % 2 ^ (j.val + 1) = 2 ^ j.val := by decide +kernel

theorem reach_bits (t : Int) : ∀ (j : Nat), j ≤ 64 → ∀ h : Int, ∃ n : Nat, (lcgN n h - t) % ((2 ^ j : Nat) : Int) = 0
 | 0, _, h => ⟨0, by simp⟩
 | j + 1, hj, h => by
   obtain ⟨n, hn⟩ := reach_bits t j (by omega) h
   generalize hy : lcgN n h = y at hn
   have e : ((2 ^ (j + 1) : Nat) : Int) = 2 * ((2 ^ j : Nat) : Int) := by rw [Nat.pow_succ]; omega
   have hpos : (0 : Int) < ((2 ^ j : Nat) : Int) := by have := Nat.two_pow_pos j; omega
   have hd : (18446744073709551616 : Int) % (2 * ((2 ^ j : Nat) : Int)) = 0 := by
     rw [← e]
     have h1 : (18446744073709551616 : Nat) = 2 ^ (j + 1) * 2 ^ (64 - (j + 1)) := by rw [← Nat.pow_add]; rw [show j + 1 + (64 - (j + 1)) = 64 by omega]
     have h2 : (18446744073709551616 : Int) = ((2 ^ (j + 1) : Nat) : Int) * ((2 ^ (64 - (j + 1)) : Nat) : Int) := by
       have := congrArg (fun x : Nat => (x : Int)) h1
       simpa using this
     rw [h2]; exact Int.mul_emod_right _ _
   by_cases hz : (y - t) % ((2 ^ (j + 1) : Nat) : Int) = 0
   · exact ⟨n, by rw [hy]; exact hz⟩
   · obtain ⟨q, hq⟩ := fac_step j y
     have hf := fac_odd ⟨j, by omega⟩
     simp only at hf
     obtain ⟨f1, f2⟩ := hf
     refine ⟨n + 2 ^ j, ?_⟩
     rw [lcgN_add, hy, hq, e]
     rw [e] at hz
     have g1 : ∃ u : Int, ((fac j).1 : Int) = 1 + u * (2 * ((2 ^ j : Nat) : Int)) := ⟨((fac j).1 / 2 ^ (j + 1) : Nat), by
       have := Nat.div_add_mod (fac j).1 (2 ^ (j + 1)); rw [f1] at this
       rw [← e, ← Int.natCast_mul]; rw [Nat.mul_comm]; omega⟩
     have g2 : ∃ v : Int, ((fac j).2 : Int) = ((2 ^ j : Nat) : Int) + v * (2 * ((2 ^ j : Nat) : Int)) := ⟨((fac j).2 / 2 ^ (j + 1) : Nat), by
       have := Nat.div_add_mod (fac j).2 (2 ^ (j + 1)); rw [f2] at this
       rw [← e, ← Int.natCast_mul]; rw [Nat.mul_comm]; omega⟩
     obtain ⟨u, hu⟩ := g1
     obtain ⟨v, hv⟩ := g2
     obtain ⟨s, hs⟩ : ∃ s : Int, (18446744073709551616 : Int) = s * (2 * ((2 ^ j : Nat) : Int)) := by
       obtain ⟨s, hs⟩ := Int.dvd_of_emod_eq_zero hd
       exact ⟨s, by rw [hs]; exact Int.mul_comm _ _⟩
     rw [hu, hv, hs]
     generalize ((2 ^ j : Nat) : Int) = P at *
     obtain ⟨r, hr⟩ := Int.dvd_of_emod_eq_zero hn
     have hodd : r % 2 = 1 := by
       rcases Int.emod_two_eq r with h0 | h1
       · exfalso
         apply hz
         obtain ⟨k, hk⟩ := Int.dvd_of_emod_eq_zero h0
         rw [hr, hk, show P * (2 * k) = 2 * P * k by grind]
         exact Int.mul_emod_right _ _
       · exact h1
     obtain ⟨k, hk⟩ : ∃ k, r = 2 * k + 1 := ⟨r / 2, by omega⟩
     have hyt : y = t + P * r := by omega
     have : (1 + u * (2 * P)) * y + (P + v * (2 * P)) + q * (s * (2 * P)) - t = 2 * P * (u * y + v + q * s + k + 1) := by
       rw [hyt, hk]; grind
     rw [this]
     exact Int.mul_emod_right _ _

theorem reach (t : Int) (ht : -9223372036854775808 ≤ t ∧ t ≤ 9223372036854775807) (m : Nat) (h : Int) : ∃ n : Nat, m ≤ n ∧ lcgN n h = t := by
 obtain ⟨n, hn⟩ := reach_bits t 64 (by omega) (lcgN (m + 1) h)
 refine ⟨m + 1 + n, by omega, ?_⟩
 rw [lcgN_add]
 have hb : -9223372036854775808 ≤ lcgN n (lcgN (m + 1) h) ∧ lcgN n (lcgN (m + 1) h) ≤ 9223372036854775807 := by
   rw [← lcgN_add, show m + 1 + n = (m + n) + 1 by omega, lcgN_add]
   exact lcg_bd _
 have e : ((2 ^ 64 : Nat) : Int) = 18446744073709551616 := by decide
 rw [e] at hn
 omega

def advI (len : Nat) : Nat → Nat → Nat
 | 0, i => i
 | k + 1, i => advI len k (gNext len i)

theorem advI_add (len : Nat) : ∀ (m n i : Nat), advI len (m + n) i = advI len n (advI len m i)
 | 0, n, i => by simp [advI]
 | m + 1, n, i => by rw [Nat.succ_add]; simp only [advI]; exact advI_add len m n _

theorem advI_end (len : Nat) : ∀ (k i : Nat), i ≤ len → len ≤ i + k → advI len k i = len
 | 0, i, h, h2 => by simp only [advI]; omega
 | k + 1, i, h, h2 => by
   simp only [advI]
   by_cases hi : i < len
   · exact advI_end len k _ (gNext_le h) (by unfold gNext; rw [if_pos hi]; omega)
   · exact advI_end len k _ (gNext_le h) (by unfold gNext; rw [if_neg hi]; omega)

def tStep (len : Nat) (zs : List Int) (s : Nat × Nat × Int) : Nat × Nat × Int :=
 if gByte len zs s.2.1 s.2.2 % 5 = 1 then (s.1 + (gByte len zs (advI len 1 s.2.1) (lcgN 1 s.2.2) % 9).toNat, advI len 3 s.2.1, lcgN 3 s.2.2)
 else if gByte len zs s.2.1 s.2.2 % 5 = 2 then
   if 0 < s.1 then (s.1 + (gByte len zs (advI len 2 s.2.1) (lcgN 2 s.2.2) % 20).toNat, advI len 3 s.2.1, lcgN 3 s.2.2)
   else (s.1, advI len 1 s.2.1, lcgN 1 s.2.2)
 else (s.1 + 1, advI len 2 s.2.1, lcgN 2 s.2.2)

def Ends (len : Nat) (zs : List Int) (n : Nat) : Nat → Nat × Nat × Int → Prop
 | 0, s => n ≤ s.1
 | k + 1, s => n ≤ s.1 ∨ Ends len zs n k (tStep len zs s)

def Good (len : Nat) (zs : List Int) (i : Nat) (h : Int) : Prop := gByte len zs i h % 5 ≠ 1 ∧ gByte len zs i h % 5 ≠ 2

theorem step_good {len : Nat} {zs : List Int} {L i : Nat} {h : Int} (g : Good len zs i h) : (tStep len zs (L, i, h)).1 = L + 1 := by
 unfold tStep
 rw [if_neg g.1, if_neg g.2]

theorem good_draws (len : Nat) (zs : List Int) (N i : Nat) (h : Int) (hi : i ≤ len) (hN : len ≤ N) (e : lcgN N h = 8) (d : Nat) (hd : d ≤ 2) : Good len zs (advI len (N + d) i) (lcgN (N + d) h) := by
 have e1 : advI len (N + d) i = len := advI_end len _ _ hi (by omega)
 have e2 : lcgN (N + d) h = lcgN d 8 := by rw [lcgN_add, e]
 rw [e1, e2]
 unfold Good gByte
 rw [if_neg (Nat.lt_irrefl _)]
 have : d = 0 ∨ d = 1 ∨ d = 2 := by omega
 rcases this with rfl | rfl | rfl
 · decide +kernel
 · decide +kernel
 · decide +kernel

theorem progress (len : Nat) (zs : List Int) (P : Nat × Nat × Int → Prop) (hP : ∀ s, P (tStep len zs s) → P s) (L : Nat) (hL : ∀ s, L < s.1 → s.2.1 ≤ len → P s) :
   ∀ (N i : Nat) (h : Int), i ≤ len → (∀ d, d ≤ 2 → Good len zs (advI len (N + d) i) (lcgN (N + d) h)) → P (L, i, h) := by
 have hadv : ∀ (k i : Nat), i ≤ len → advI len k i ≤ len := by
   intro k
   induction k with
   | zero => intro i hi; exact hi
   | succ k ih => intro i hi; exact ih _ (gNext_le hi)
 have good : ∀ i h, i ≤ len → Good len zs i h → P (L, i, h) := by
   intro i h hi g
   apply hP
   apply hL
   · rw [step_good g]; omega
   · unfold tStep; rw [if_neg g.1, if_neg g.2]; exact hadv 2 i hi
 intro N
 induction N using Nat.strongRecOn with
 | _ N ih =>
   intro i h hi hg
   by_cases g : Good len zs i h
   · exact good i h hi g
   · have hN : N ≠ 0 := fun e => by subst e; exact g (hg 0 (by omega))
     apply hP
     by_cases c1 : gByte len zs i h % 5 = 1
     · have e : tStep len zs (L, i, h) = (L + (gByte len zs (advI len 1 i) (lcgN 1 h) % 9).toNat, advI len 3 i, lcgN 3 h) := by unfold tStep; rw [if_pos c1]
       rw [e]
       by_cases hk : (gByte len zs (advI len 1 i) (lcgN 1 h) % 9).toNat = 0
       · rw [hk]
         by_cases h3 : 3 ≤ N
         · refine ih (N - 3) (by omega) _ _ (hadv 3 i hi) fun d hd => ?_
           rw [← advI_add, ← lcgN_add, show 3 + (N - 3 + d) = N + d by omega]
           exact hg d hd
         · refine good _ _ (hadv 3 i hi) ?_
           have := hg (3 - N) (by omega)
           rwa [show N + (3 - N) = 3 by omega] at this
       · exact hL _ (by simp only; omega) (hadv 3 i hi)
     · have c2 : gByte len zs i h % 5 = 2 := Classical.not_not.1 fun c2 => g ⟨c1, c2⟩
       by_cases h0 : 0 < L
       · have e : tStep len zs (L, i, h) = (L + (gByte len zs (advI len 2 i) (lcgN 2 h) % 20).toNat, advI len 3 i, lcgN 3 h) := by unfold tStep; rw [if_neg c1, if_pos c2, if_pos h0]
         rw [e]
         by_cases hk : (gByte len zs (advI len 2 i) (lcgN 2 h) % 20).toNat = 0
         · rw [hk]
           by_cases h3 : 3 ≤ N
           · refine ih (N - 3) (by omega) _ _ (hadv 3 i hi) fun d hd => ?_
             rw [← advI_add, ← lcgN_add, show 3 + (N - 3 + d) = N + d by omega]
             exact hg d hd
           · refine good _ _ (hadv 3 i hi) ?_
             have := hg (3 - N) (by omega)
             rwa [show N + (3 - N) = 3 by omega] at this
         · exact hL _ (by simp only; omega) (hadv 3 i hi)
       · have e : tStep len zs (L, i, h) = (L, advI len 1 i, lcgN 1 h) := by unfold tStep; rw [if_neg c1, if_pos c2, if_neg h0]
         rw [e]
         refine ih (N - 1) (by omega) _ _ (hadv 1 i hi) fun d hd => ?_
         rw [← advI_add, ← lcgN_add, show 1 + (N - 1 + d) = N + d by omega]
         exact hg d hd

theorem ends (len : Nat) (zs : List Int) (n : Nat) : ∀ (m L i : Nat) (h : Int), n ≤ L + m → i ≤ len → ∃ k, Ends len zs n k (L, i, h)
 | 0, L, i, h, hm, hi => ⟨0, by simp only [Ends]; omega⟩
 | m + 1, L, i, h, hm, hi => by
   obtain ⟨N, hN, e⟩ := reach 8 (by omega) len h
   refine progress len zs (fun s => ∃ k, Ends len zs n k s) (fun s ⟨k, hk⟩ => ⟨k + 1, Or.inr hk⟩) L (fun s hs hsi => ?_) N i h hi (fun d hd => good_draws len zs N i h hi hN e d hd)
   obtain ⟨L', i', h'⟩ := s
   exact ends len zs n m L' i' h' (by simp only at hs; omega) hsi
theorem CurAt.rowlt {w : World} {T p : Nat} {a : Option Addr} {len cap : Nat} {zs : List Int} {i : Nat} {h : Int} (c : CurAt w T p a len cap zs i h) : ∀ x, a = some x → x.block < w.heap.size ∨ len = 0 := by
 intro x hx
 rcases Nat.eq_zero_or_pos len with h0 | hpos
 · exact .inr h0
 · obtain ⟨b, off, hb, hlt, _⟩ := c.bytes.2 0 hpos
   rw [hb] at hx
   cases hx
   exact .inl hlt
theorem CurAt.set {w w' : World} {T p : Nat} {a : Option Addr} {len cap : Nat} {zs : List Int} {i : Nat} {h : Int} (c : CurAt w' T p a len cap zs i h) {B : Nat} (hr : ∀ x, a = some x → x.block < B ∨ len = 0) (hp : p < B) {g : Nat} (hg : B ≤ g) (k : Nat) (v : Value) : CurAt (w'.setCell ⟨g, k, none⟩ v) T p a len cap zs i h :=
 c.kept (grown_set w' g k v) (by simp; omega) (fun x hx => by rcases hr x hx with h | h; exact .inl (by simp; omega); exact .inr h)
end Go.Proofs.Ytjcgbpjgoacdjaa
