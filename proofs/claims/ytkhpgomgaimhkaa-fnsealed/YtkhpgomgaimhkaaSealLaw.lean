/- The walk of the law FnSealed. -/
import Derived.Test.YtkhpgomgaimhkaaAt
import Derived.Test.YtkhpgomgaimhkaaBig
import Derived.Test.YtkhpgomgaimhkaaVarAs
import Derived.Test.YtkhpgomgaimhkaaOpened
import Derived.Test.YtkhpgomgaimhkaaSealPure
import Derived.Test.YtkhpgomgaimhkaaBuf
import Derived.Test.YtkhpgomgaimhkaaDrawOpen
import Derived.StillTailTactics
namespace Go.Proofs.Ytkhpgomgaimhkaa
open Go.RowKit
set_option linter.unusedVariables false

theorem implSealed_as (s A : ByteArray) (hs : s.size ≤ 1000000000) (hA : A.data.toList = sealedB s.data.toList) (w : World) : Calls Try.prog 39 #[.string s] w (Same w A) :=
  (implSealed s w hs).mono fun e w' ⟨h1, h2⟩ => ⟨by rw [h1, as_text hA], h2⟩
theorem specSealed_as (s A : ByteArray) (hs : s.size ≤ 1000000000) (hA : A.data.toList = sealedB s.data.toList) (w : World) : Calls Try.prog 43 #[.string s] w (Same w A) :=
  (specSealed s w hs).mono fun e w' ⟨h1, h2⟩ => ⟨by rw [h1, as_text hA], h2⟩
/-- One and the same byte each time that it is looked at. -/
theorem at_one (a : Option Addr) (len cap : Nat) (zs : List Int) (i : Nat) {p : Nat} (w : World) (hr : Bytes w p a len zs) (hl : len ≤ 1048576) (hi : i ≤ 1000000) :
    ∃ v : Nat, v ≤ 255 ∧ True ∧ ∀ W : World, (∀ x, W.cell? x = w.cell? x) → W.heap.size = w.heap.size → Calls Try.prog 22 #[.slice a len cap, .int .i64 i] W fun e w' => e = .returned (.int .i64 v) ∧ w' = W := by
  by_cases h : i < len
  · obtain ⟨b, off, rfl, hb, hne, hc, hr1, hr2⟩ := hr.2 i h
    obtain ⟨z, hz⟩ : ∃ z, zs.getD i 0 = z := ⟨_, rfl⟩
    rw [hz] at hc hr1 hr2
    obtain ⟨z, rfl⟩ := Int.eq_ofNat_of_zero_le hr1
    refine ⟨z, by omega, trivial, fun W hW hWs => ?_⟩
    have hcW : W.cell? ⟨b, off + i, none⟩ = some (.int .u8 (z : Int)) := (hW _).trans hc
    have i1 : (i : Int) < (len : Int) := by omega
    clear hr hz hW hc hWs hb
    go_enter Try.func22, Try.ntmps22
    go_wp2
    go_ret
    exact ⟨rfl, rfl⟩
  · refine ⟨(i * 7 + len) % 256, by omega, trivial, fun W hW hWs => ?_⟩
    clear hr hW hWs
    go_enter Try.func22, Try.ntmps22
    go_wp2
    go_ret
    exact ⟨ret_int (by omega), rfl⟩

theorem text_size (l : List UInt8) : (⟨l.toArray⟩ : ByteArray).size = l.length := by simp [ByteArray.size]
/-- A byte turned by a number that isn't nought. -/
def turned (c : UInt8) (v : Nat) : UInt8 := UInt8.ofNat (c.toNat ^^^ (1 + v % 255))
theorem turned_nat (c : UInt8) (v : Nat) : (turned c v).toNat = c.toNat ^^^ (1 + v % 255) := by
  unfold turned
  rw [UInt8.toNat_ofNat']
  have h1 : c.toNat ^^^ (1 + v % 255) < 2 ^ 8 := Nat.xor_lt_two_pow c.toNat_lt (by omega)
  exact Nat.mod_eq_of_lt h1
theorem turned_val (c : UInt8) (v : Nat) : Value.int .u8 (bits .xor .u8 (c.toNat : Int) (1 + (v : Int) % 255)) = u8v (turned c v) := by
  have hc := c.toNat_lt
  have e : 1 + (v : Int) % 255 = ((1 + v % 255 : Nat) : Int) := by omega
  unfold u8v
  rw [e, u8_xor_nat _ _ (by omega) (by omega), turned_nat]
theorem turned_ne (c : UInt8) (v : Nat) : c ≠ turned c v := by
  intro h
  have h1 := congrArg UInt8.toNat h
  rw [turned_nat] at h1
  have h2 : c.toNat ^^^ c.toNat = c.toNat ^^^ (c.toNat ^^^ (1 + v % 255)) := by rw [← h1]
  rw [← Nat.xor_assoc, Nat.xor_self, Nat.zero_xor] at h2
  omega

set_option maxHeartbeats 2000000 in
set_option maxRecDepth 100000 in
theorem fnSealed_walk (a0 : Option Addr) (len0 cap0 : Nat) (z0 : List Int) (w : World) (w0 : IsRow .u8 w a0 len0 cap0 z0) :
    Calls Try.prog 8 #[.slice a0 len0 cap0] w fun e w' => e = .returned (.bool true) ∧ Below w.heap.size w w' := by
  have hr := bytes_of_row w0 w.heap.size (Nat.le_refl _)
  have HR := Lib.hid hr
  clear hr w0
  by_cases hbig : len0 ≤ 1048576
  · go_enter Try.func8, Try.ntmps8
    go_wp2_with fail
    refine (big_no a0 len0 cap0 _ hbig).mono ?_
    rintro e w1 ⟨rfl, rfl⟩
    go_wp2_with fail
    refine (drawSealed_at a0 len0 cap0 z0 _ HR.out).mono ?_
    rintro e w1 ⟨s, hs, rfl, hb⟩
    have R1 := Lib.hid (below_bytes HR.out hb)
    have B1 := Lib.hid hb
    clear hb HR
    obtain ⟨X, hX, hXl⟩ := text_of (sealedB s.data.toList)
    have hsl : s.data.toList.length = s.size := by simp
    rw [sealed_len, hsl] at hXl
    have HX := Lib.hid hX
    have HXL := Lib.hid hXl
    have hx1 : X.size ≤ 104 := by omega
    have hx2 : 4 ≤ X.size := by omega
    have HOS := Lib.hid (opened_sealed s.data.toList)
    clear hX hXl hsl
    go_wp2_with fail
    refine (implSealed_as s X (by omega) HX.out _).mono ?_
    rintro e w2 ⟨rfl, hb⟩
    have R2 := Lib.hid (below_bytes R1.out hb)
    have B2 := Lib.hid (B1.out.trans (hb.mono B1.out.size))
    clear hb R1 B1
    go_wp2_with fail
    refine (drawOpened_at a0 len0 cap0 z0 _ R2.out).mono ?_
    rintro e w3 ⟨t, ht, rfl, hb⟩
    have R3 := Lib.hid (below_bytes R2.out hb)
    have B3 := Lib.hid (B2.out.trans (hb.mono B2.out.size))
    clear hb R2 B2
    obtain ⟨Y, hY, hYl⟩ := text_of (opened1 t.data.toList)
    have HY := Lib.hid hY
    have hYs : Y.size ≤ 100 := by
      rw [hYl]
      unfold opened1 openedB
      split
      · simp only [Option.getD_some]; exact Nat.le_trans (List.length_take_le' _ _) (by simpa using ht)
      · simp
    have HBK := Lib.hid (fun h => opened_back (l := t.data.toList) h)
    have HOI := Lib.hid (implOpened t)
    have HOS2 := Lib.hid (specOpened t)
    unfold OpenOut at HOI HOS2
    rw [as_text HY.out] at HOI HOS2
    generalize opened2 t.data.toList = fine at HBK HOI HOS2
    clear hY hYl
    go_wp2_with fail
    refine (HOI.out _ (by omega)).mono ?_
    rintro e w4 ⟨rfl, hb⟩
    have R4 := Lib.hid (below_bytes R3.out hb)
    have B4 := Lib.hid (B3.out.trans (hb.mono B3.out.size))
    clear hb R3 B3
    go_wp2_with fail
    refine (HOS2.out _ (by omega)).mono ?_
    rintro e w5 ⟨rfl, hb⟩
    have R5 := Lib.hid (below_bytes R4.out hb)
    have B5 := Lib.hid (B4.out.trans (hb.mono B4.out.size))
    clear hb R4 B4 HOI HOS2
    go_wp2_with fail
    refine (specSealed_as s X (by omega) HX.out _).mono ?_
    rintro e w6 ⟨rfl, hb⟩
    have R6 := Lib.hid (below_bytes R5.out hb)
    have B6 := Lib.hid (B5.out.trans (hb.mono B5.out.size))
    clear hb R5 B5
    cases fine
    · have RR := Lib.hid R6.out
      have BB := Lib.hid B6.out
      clear R6 B6 HBK
      go_wp2_with fail
      refine (implOpened X _ (by omega)).mono ?_
      unfold OpenOut
      rw [HX.out, HOS.out.1, HOS.out.2, as_text (A := s) (l := s.data.toList) rfl]
      rintro e w8 ⟨rfl, hb⟩
      have R8 := Lib.hid (below_bytes RR.out hb)
      have B8 := Lib.hid (BB.out.trans (hb.mono BB.out.size))
      clear hb BB RR
      obtain ⟨cap, W, hcv, hbuf, hcap⟩ := buf_new w8 X
      have HBF := Lib.hid hbuf
      have RW := Lib.hid (below_bytes R8.out hbuf.below)
      clear hbuf R8
      go_wp2_with fail
      refine (at_some a0 len0 cap0 z0 7 _ _ RW.out hbig (by omega)).mono ?_
      rintro e w9 ⟨x7, h7, rfl, rfl⟩
      clear hcv
      obtain ⟨n, hn, hn2⟩ : ∃ n : Nat, ((x7 : Int) % (X.size : Int)) = (n : Int) ∧ n < X.size := ⟨x7 % X.size, by simp, Nat.mod_lt _ (by omega)⟩
      have HN := Lib.hid hn
      have hd0 : ((X.size : Int) == 0) = false := beq_eq_false_iff_ne.2 (by omega)
      clear hn
      go_wp2_with fail
      rw [HN.out]
      obtain ⟨v, hv, hv2, hcall⟩ := at_one a0 len0 cap0 z0 8 _ RW.out hbig (by omega)
      have hXL : X.data.toList.length = X.size := by simp
      have hcell := HBF.out.cell n (by omega)
      have hfro := HBF.out.frozen n (by omega)
      unfold u8v at hcell
      obtain ⟨c, hc⟩ : ∃ c, X.data.toList.getD n 0 = c := ⟨_, rfl⟩
      rw [hc] at hcell
      have HC := Lib.hid hc
      have HCALL := Lib.hid hcall
      have i1 : (n : Int) < (X.size : Int) := by omega
      clear hc hcall hd0
      refine wp_region_still_tail 13 (by kernel_rfl) (by kernel_rfl) ?_
      simp only [List.take_succ_cons, List.take_zero, List.drop_succ_cons, List.drop_zero]
      iterate 7 still_step
      still_call (HCALL.out _ (fun _ => rfl) rfl)
      iterate 5 still_step
      refine wpStill_nil ?_
      change wpList _ _ _ _ _ W.drew
      have HB2 := Lib.hid ((HBF.out.set n (turned c v) (turned_val c v)).drewN 1)
      have hcv2 : (convert 22 9 (.slice (some ⟨w8.heap.size, 0, none⟩) X.size cap)).run Try.prog (W.setCell ⟨w8.heap.size, n, none⟩ (.int .u8 (bits .xor .u8 (c.toNat : Int) (1 + (v : Int) % 255)))).drew = .ok (.string ⟨(X.data.toList.set n (turned c v)).toArray⟩) (W.setCell ⟨w8.heap.size, n, none⟩ (.int .u8 (bits .xor .u8 (c.toNat : Int) (1 + (v : Int) % 255)))).drew :=
        HB2.out.str (by rw [List.length_set]; exact hXL)
      have HBZ := Lib.hid (B8.out.trans (HB2.out.below.mono B8.out.size))
      have hbad := opened_changed s.data.toList n (turned c v) (by rw [← HX.out, hXL]; exact hn2) (by rw [← HX.out, HC.out]; exact turned_ne c v)
      rw [← HX.out] at hbad
      have HBAD := Lib.hid hbad
      obtain ⟨Z, hZ⟩ : ∃ Z : ByteArray, (⟨(X.data.toList.set n (turned c v)).toArray⟩ : ByteArray) = Z := ⟨_, rfl⟩
      have hZs : Z.size ≤ 1000 := by rw [← hZ, text_size, List.length_set, hXL]; omega
      have HZD := Lib.hid (show Z.data.toList = X.data.toList.set n (turned c v) by rw [← hZ])
      rw [hZ] at hcv2
      have HXS := Lib.hid (show ((X.size : Int) == (s.size : Int) + 4) = true by have := HXL.out; simp; omega)
      clear hZ hbad hXL HB2
      go_wp2_with fail
      refine (implOpened Z _ (by omega)).mono ?_
      unfold OpenOut
      rw [HZD.out, HBAD.out]
      generalize opened1 (X.data.toList.set n (turned c v)) = q1
      rintro e w10 ⟨rfl, hb⟩
      have B10 := Lib.hid (HBZ.out.trans (hb.mono HBZ.out.size))
      have hxs := HXS.out
      clear hb HBZ hcv2 hcell hfro
      go_wp2
      go_ret
      exact ⟨rfl, B10.out⟩
    · have HTY := Lib.hid (show t.data.toList = sealedB Y.data.toList by rw [HY.out]; exact (HBK.out rfl).symm)
      go_wp2_with fail
      refine (implSealed_as Y t (by omega) HTY.out _).mono ?_
      rintro e w7 ⟨rfl, hb⟩
      have RR := Lib.hid (below_bytes R6.out hb)
      have BB := Lib.hid (B6.out.trans (hb.mono B6.out.size))
      clear hb R6 B6 HBK HTY
      go_wp2_with fail
      refine (implOpened X _ (by omega)).mono ?_
      unfold OpenOut
      rw [HX.out, HOS.out.1, HOS.out.2, as_text (A := s) (l := s.data.toList) rfl]
      rintro e w8 ⟨rfl, hb⟩
      have R8 := Lib.hid (below_bytes RR.out hb)
      have B8 := Lib.hid (BB.out.trans (hb.mono BB.out.size))
      clear hb BB RR
      obtain ⟨cap, W, hcv, hbuf, hcap⟩ := buf_new w8 X
      have HBF := Lib.hid hbuf
      have RW := Lib.hid (below_bytes R8.out hbuf.below)
      clear hbuf R8
      go_wp2_with fail
      refine (at_some a0 len0 cap0 z0 7 _ _ RW.out hbig (by omega)).mono ?_
      rintro e w9 ⟨x7, h7, rfl, rfl⟩
      clear hcv
      obtain ⟨n, hn, hn2⟩ : ∃ n : Nat, ((x7 : Int) % (X.size : Int)) = (n : Int) ∧ n < X.size := ⟨x7 % X.size, by simp, Nat.mod_lt _ (by omega)⟩
      have HN := Lib.hid hn
      have hd0 : ((X.size : Int) == 0) = false := beq_eq_false_iff_ne.2 (by omega)
      clear hn
      go_wp2_with fail
      rw [HN.out]
      obtain ⟨v, hv, hv2, hcall⟩ := at_one a0 len0 cap0 z0 8 _ RW.out hbig (by omega)
      have hXL : X.data.toList.length = X.size := by simp
      have hcell := HBF.out.cell n (by omega)
      have hfro := HBF.out.frozen n (by omega)
      unfold u8v at hcell
      obtain ⟨c, hc⟩ : ∃ c, X.data.toList.getD n 0 = c := ⟨_, rfl⟩
      rw [hc] at hcell
      have HC := Lib.hid hc
      have HCALL := Lib.hid hcall
      have i1 : (n : Int) < (X.size : Int) := by omega
      clear hc hcall hd0
      refine wp_region_still_tail 13 (by kernel_rfl) (by kernel_rfl) ?_
      simp only [List.take_succ_cons, List.take_zero, List.drop_succ_cons, List.drop_zero]
      iterate 7 still_step
      still_call (HCALL.out _ (fun _ => rfl) rfl)
      iterate 5 still_step
      refine wpStill_nil ?_
      change wpList _ _ _ _ _ W.drew
      have HB2 := Lib.hid ((HBF.out.set n (turned c v) (turned_val c v)).drewN 1)
      have hcv2 : (convert 22 9 (.slice (some ⟨w8.heap.size, 0, none⟩) X.size cap)).run Try.prog (W.setCell ⟨w8.heap.size, n, none⟩ (.int .u8 (bits .xor .u8 (c.toNat : Int) (1 + (v : Int) % 255)))).drew = .ok (.string ⟨(X.data.toList.set n (turned c v)).toArray⟩) (W.setCell ⟨w8.heap.size, n, none⟩ (.int .u8 (bits .xor .u8 (c.toNat : Int) (1 + (v : Int) % 255)))).drew :=
        HB2.out.str (by rw [List.length_set]; exact hXL)
      have HBZ := Lib.hid (B8.out.trans (HB2.out.below.mono B8.out.size))
      have hbad := opened_changed s.data.toList n (turned c v) (by rw [← HX.out, hXL]; exact hn2) (by rw [← HX.out, HC.out]; exact turned_ne c v)
      rw [← HX.out] at hbad
      have HBAD := Lib.hid hbad
      obtain ⟨Z, hZ⟩ : ∃ Z : ByteArray, (⟨(X.data.toList.set n (turned c v)).toArray⟩ : ByteArray) = Z := ⟨_, rfl⟩
      have hZs : Z.size ≤ 1000 := by rw [← hZ, text_size, List.length_set, hXL]; omega
      have HZD := Lib.hid (show Z.data.toList = X.data.toList.set n (turned c v) by rw [← hZ])
      rw [hZ] at hcv2
      have HXS := Lib.hid (show ((X.size : Int) == (s.size : Int) + 4) = true by have := HXL.out; simp; omega)
      clear hZ hbad hXL HB2
      go_wp2_with fail
      refine (implOpened Z _ (by omega)).mono ?_
      unfold OpenOut
      rw [HZD.out, HBAD.out]
      generalize opened1 (X.data.toList.set n (turned c v)) = q1
      rintro e w10 ⟨rfl, hb⟩
      have B10 := Lib.hid (HBZ.out.trans (hb.mono HBZ.out.size))
      have hxs := HXS.out
      clear hb HBZ hcv2 hcell hfro
      go_wp2
      go_ret
      exact ⟨rfl, B10.out⟩
  · go_enter Try.func8, Try.ntmps8
    go_wp2_with fail
    refine (big_yes a0 len0 cap0 _ hbig).mono ?_
    rintro e w1 ⟨rfl, rfl⟩
    go_wp2
    go_ret
    exact ⟨rfl, Below.refl _ _⟩
end Go.Proofs.Ytkhpgomgaimhkaa
