/- The model's Hash and Probes. -/
import Derived.Test.YtkomnnijnggbpaaZ0
import Derived.Laws.BitsAllLaws
namespace Go.Proofs.Ytkomnnijnggbpaa
open Go.RowKit
set_option linter.unusedVariables false

theorem hx_byte (x : Nat) (c : UInt8) (h : x < 4294967296) : bits .xor .u32 (x : Int) ((c.toNat : Int) % 4294967296) * 16777619 % 4294967296 = ((hstep x c : Nat) : Int) := by
 have hc := c.toNat_lt
 have e : (c.toNat : Int) % 4294967296 = (c.toNat : Int) := by omega
 rw [e, u32_xor_nat x c.toNat h (by omega)]
 unfold hstep
 omega
theorem hash_end (l : List UInt8) : hashF 2166136261 l = hash l := rfl

set_option maxHeartbeats 400000 in
theorem specHash (s : ByteArray) (w : World) (hs : s.size ≤ maxLen) :
   Calls Try.prog 83 #[.string s] w fun e w' => e = .returned (.int .i64 (hash s.data.toList : Nat)) ∧ w = w' := by
 unfold maxLen at hs
 go_enter Try.func83, Try.ntmps83
 go_wp2_with fail
 go_loop [3, 4] (fun x i => ∃ k : Nat, k ≤ s.size ∧ i = .int .i64 k ∧ x = .int .u32 (hashF 2166136261 (s.data.toList.take k) : Nat)) (fun _ i => s.size - (intOf i).toNat)
 case atStart => exact ⟨0, Nat.zero_le _, rfl, rfl⟩
 case round =>
   obtain ⟨k, hk, rfl, rfl⟩ := hrel
   have hX := hashF_lt (s.data.toList.take k) (x := 2166136261) (by omega)
   by_cases hlt : k < s.size
   · have HS := Lib.hid (show hashF 2166136261 (s.data.toList.take (k + 1)) = hstep (hashF 2166136261 (s.data.toList.take k)) s[k] by rw [take_snoc s k hlt, hashF_snoc])
     have HB := Lib.hid (hx_byte _ s[k] hX)
     generalize hashF 2166136261 (s.data.toList.take k) = X at HS HB hX ⊢
     have HX := Lib.hid hX
     clear hX
     go_wp2
     go_round
     case rel => exact ⟨k + 1, by omega, by go_num, congrArg (Value.int IntKind.u32) (by rw [HB.out, HS.out])⟩
     case measure => simp [intOf]; omega
   · obtain rfl : k = s.size := by omega
     have e0 : s.data.toList.take s.size = s.data.toList := List.take_of_length_le (by simp)
     rw [e0] at hX ⊢
     go_wp2
     go_ret
     exact ⟨by rw [hash_end]; rfl, rfl⟩

def nums (l : List Nat) : List Int := l.map (fun n : Nat => (n : Int))
theorem nums_len (l : List Nat) : (nums l).length = l.length := by unfold nums; simp
theorem nums_snoc (l : List Nat) (n : Nat) : nums (l ++ [n]) = nums l ++ [(n : Int)] := by unfold nums; simp
def IntsOut (w : World) (l : List Nat) (e : Ending) (w' : World) : Prop := ∃ v, e = .returned v ∧ OwnI w.heap.size w' v (nums l) ∧ Below w.heap.size w w'

set_option maxHeartbeats 1000000 in
theorem specProbes_in (s : ByteArray) (b : Nat) (hb1 : 1 ≤ b) (hb2 : b ≤ 100000) (w : World) (hs : s.size ≤ maxLen) :
   Calls Try.prog 65 #[.string s, .int .i64 b] w (IntsOut w (six (hash s.data.toList) b 6)) := by
 have hh := hash_lt s.data.toList
 obtain ⟨H, hH⟩ : ∃ H, hash s.data.toList = H := ⟨_, rfl⟩
 have HH := Lib.hid hH
 rw [hH] at hh ⊢
 clear hH
 have hd := dlt_lt hh
 obtain ⟨D, hD⟩ : ∃ D, dlt H = D := ⟨_, rfl⟩
 have HDD := Lib.hid hD
 rw [hD] at hd
 clear hD
 have HS0 := Lib.hid (stand_zero hh)
 have HD := Lib.hid (show bits .or .u32 ((H : Int) / 131072) ((H : Int) * 32768 % 4294967296) = (D : Int) by
   have h1 := u32_or_nat (H / 131072) (H * 32768 % 4294967296) (by omega) (by omega)
   rw [show ((H / 131072 : Nat) : Int) = (H : Int) / 131072 by omega, show ((H * 32768 % 4294967296 : Nat) : Int) = (H : Int) * 32768 % 4294967296 by omega] at h1
   rw [h1, ← HDD.out]
   rfl)
 have O0 := Lib.hid (owni_made w)
 have B0 := Lib.hid ((Below.refl w.heap.size w).alloc (Nat.le_refl _) (.cells #[] 3))
 go_enter Try.func65, Try.ntmps65
 go_wp2_with fail
 refine (specIn_yes b 1 100000 _ (by omega) (by omega)).mono ?_
 rintro e w1 ⟨rfl, rfl⟩
 go_wp2_with fail
 refine (specHash s _ hs).mono ?_
 rw [HH.out]
 rintro e w1 ⟨rfl, rfl⟩
 go_wp2_with fail
 rw [HD.out]
 go_loopw [5, 6, 8] (fun vv hx ii wr => ∃ (j : Nat), j ≤ 6 ∧ ii = .int .i64 j ∧ hx = .int .u32 (stand H j : Nat) ∧ Hid (OwnI w.heap.size wr vv (nums (six H b j)) ∧ Below w.heap.size w wr)) (fun _ _ ii _ => 6 - (intOf ii).toNat)
 case atStart => exact ⟨0, by omega, rfl, by rw [HS0.out], ⟨O0.out, B0.out⟩⟩
 case round =>
   obtain ⟨j, hj, rfl, rfl, HX⟩ := hrel
   obtain ⟨ad, cp, hv⟩ := HX.out.1.form
   rw [nums_len, six_len] at hv
   subst hv
   have hst := stand_lt H j
   have HN := Lib.hid (stand_next H j)
   have HSN := Lib.hid (six_snoc H b j)
   obtain ⟨X, hX⟩ : ∃ X, stand H j = X := ⟨_, rfl⟩
   rw [hX] at hst HN HSN ⊢
   clear hX
   by_cases hlt : j < 6
   · have j1 : (j : Int) < 6 := by omega
     have hne : ¬ b = 0 := by omega
     have hxb : X % b < b := Nat.mod_lt _ (by omega)
     obtain ⟨p, hp⟩ : ∃ p, X % b = p := ⟨_, rfl⟩
     have HP := Lib.hid hp
     have hki : (X : Int).tmod (b : Int) = (p : Int) := by rw [← hp, Int.natCast_emod, Int.tmod_eq_emod_of_nonneg (by omega)]
     have hpl : p < b := by omega
     have hkw : IntKind.i64.wrap (p : Int) = (p : Int) := IntWalk.i64_in _ (by omega)
     clear hp hxb
     have N6 := Lib.hid (new_int wr (p : Int))
     have O6 := Lib.hid (HX.out.1.new (.cells #[.int .i64 (p : Int)] 3))
     have B6 := Lib.hid (HX.out.2.alloc HX.out.2.size (.cells #[.int .i64 (p : Int)] 3))
     have HL := Lib.hid (show (nums (six H b j)).length = j by rw [nums_len, six_len])
     clear HX
     go_wp2_with (at_builtin; refine wpList_plain rfl (fun K hK => ?_); refine op_pushI [(p : Int)] _ _ rfl rfl rfl rfl N6.out O6.out B6.out.size (by rw [HL.out]; simp; omega) ?_; intro v7 w7 o7 gr7; refine hK _ _ ?_; clear hK K; have L7 := Lib.hid (B6.out.grown gr7 B6.out.size (fun q e => (O6.out.lt e).1)); have O7 := Lib.hid o7; clear o7 gr7)
     go_roundw
     case rel => exact ⟨j + 1, by omega, by go_num, congrArg (Value.int IntKind.u32) (by rw [HN.out, HDD.out]; omega), ⟨by rw [HSN.out, HP.out, nums_snoc]; exact O7.out, L7.out⟩⟩
     case measure => simp [intOf]; omega
   · obtain rfl : j = 6 := by omega
     go_wp2
     go_ret
     exact ⟨_, rfl, HX.out.1, HX.out.2⟩
set_option maxHeartbeats 400000 in
theorem specProbes (s : ByteArray) (b : Int) (w : World) (hs : s.size ≤ maxLen) : Calls Try.prog 65 #[.string s, .int .i64 b] w (IntsOut w (probes s.data.toList b)) := by
 by_cases h : 1 ≤ b ∧ b ≤ 100000
 · obtain ⟨n, rfl⟩ := Int.eq_ofNat_of_zero_le (show 0 ≤ b by omega)
   rw [probes_yes (by omega) (by omega)]
   exact specProbes_in s n (by omega) (by omega) w hs
 · have HP := Lib.hid (probes_no (l := s.data.toList) (bits := b) (by omega))
   have O0 := Lib.hid (owni_made w)
   have B0 := Lib.hid ((Below.refl w.heap.size w).alloc (Nat.le_refl _) (.cells #[] 3))
   have HB := Lib.hid (show b < 1 ∨ 100000 < b by omega)
   clear h
   go_enter Try.func65, Try.ntmps65
   go_wp2_with fail
   refine (specIn_no b 1 100000 _ HB.out).mono ?_
   rintro e w1 ⟨rfl, rfl⟩
   go_wp2
   go_ret
   exact ⟨_, rfl, by rw [HP.out]; exact O0.out, B0.out⟩
end Go.Proofs.Ytkomnnijnggbpaa
