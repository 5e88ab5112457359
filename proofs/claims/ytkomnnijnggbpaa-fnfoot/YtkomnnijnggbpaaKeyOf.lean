/- Contracts of KeyOf: the program's and the model's. -/
import Derived.Test.YtkomnnijnggbpaaZ0
namespace Go.Proofs.Ytkomnnijnggbpaa
open Go.RowKit
set_option linter.unusedVariables false

theorem key_text (R C S : ByteArray) (T : Int) (h : S.data.toList = (fixB (1000000000 - T).toNat 4).reverse) : (R ++ (⟨#[0]⟩ : ByteArray) ++ C ++ (⟨#[0]⟩ : ByteArray) ++ S) = ⟨(key R.data.toList C.data.toList T).toArray⟩ := by
 apply bytes_ext
 unfold key
 simp [h]
theorem keyOk_form (R C : ByteArray) (T : Int) {r c t : Bool} (h1 : nameOk R.data.toList = r) (h2 : nameOk C.data.toList = c) (h3 : timeOk T = t) : keyOk R.data.toList C.data.toList T = (r && c && t) := by unfold keyOk; rw [h1, h2, h3]

theorem four_text (W : World) (m : Nat) (hm : m ≤ 1000000000) : ∃ S : ByteArray, S.data.toList = (fixB m 4).reverse ∧ S.size = 4 ∧
   (convert 22 9 (.slice (some ⟨W.heap.size, 0, none⟩) 4 4)).run Try.prog (W.alloc (.cells #[.int .u8 ((m : Int) / 16777216), .int .u8 ((m : Int) / 65536 % 256), .int .u8 ((m : Int) / 256 % 256), .int .u8 ((m : Int) % 256)] 5)) =
     .ok (.string S) (W.alloc (.cells #[.int .u8 ((m : Int) / 16777216), .int .u8 ((m : Int) / 65536 % 256), .int .u8 ((m : Int) / 256 % 256), .int .u8 ((m : Int) % 256)] 5)) := by
 refine ⟨⟨(fixB m 4).reverse.toArray⟩, rfl, by simp [ByteArray.size, fix_length], str_of_cells _ (by simp [fix_length]) ?_⟩
 intro j hj
 have hb : (W.alloc (.cells #[.int .u8 ((m : Int) / 16777216), .int .u8 ((m : Int) / 65536 % 256), .int .u8 ((m : Int) / 256 % 256), .int .u8 ((m : Int) % 256)] 5)).heap[W.heap.size]? = some (.cells #[.int .u8 ((m : Int) / 16777216), .int .u8 ((m : Int) / 65536 % 256), .int .u8 ((m : Int) / 256 % 256), .int .u8 ((m : Int) % 256)] 5 (0, 0)) := by
   show (W.heap.push _)[W.heap.size]? = _
   simp
 rw [show (W.alloc (.cells #[.int .u8 ((m : Int) / 16777216), .int .u8 ((m : Int) / 65536 % 256), .int .u8 ((m : Int) / 256 % 256), .int .u8 ((m : Int) % 256)] 5)).cell? ⟨W.heap.size, j, none⟩ = #[Value.int .u8 ((m : Int) / 16777216), .int .u8 ((m : Int) / 65536 % 256), .int .u8 ((m : Int) / 256 % 256), .int .u8 ((m : Int) % 256)][j]? by simp only [World.cell?, hb]; rfl]
 have e0 := byteInt m 0
 have e1 := byteInt m 1
 have e2 := byteInt m 2
 have e3 := byteInt m 3
 simp only [Nat.mul_zero, Nat.reduceMul, Nat.reducePow, Int.reducePow, Int.pow_zero, Nat.pow_zero, Nat.div_one, Int.ediv_one] at e0 e1 e2 e3
 have e3' : (m : Int) / 16777216 = (m : Int) / 16777216 % 256 := by omega
 have hx : (fixB m 4).reverse = [UInt8.ofNat (m / 16777216), UInt8.ofNat (m / 65536), UInt8.ofNat (m / 256), UInt8.ofNat m] := by simp [fixB, List.range_succ]
 rw [hx] at hj ⊢
 rw [e3', e3, e2, e1, e0]
 match j, hj with
 | 0, _ => rfl
 | 1, _ => rfl
 | 2, _ => rfl
 | 3, _ => rfl

set_option maxHeartbeats 2000000 in
theorem implKeyOf (R C : ByteArray) (T : Int) (hR : R.size ≤ maxLen) (hC : C.size ≤ maxLen) (w : World) :
   Calls Try.prog 53 #[.string R, .string C, .int .i64 T] w (TextIs w (keyOf R.data.toList C.data.toList T)) := by
 obtain ⟨r, hr⟩ : ∃ r, nameOk R.data.toList = r := ⟨_, rfl⟩
 obtain ⟨c, hc⟩ : ∃ c, nameOk C.data.toList = c := ⟨_, rfl⟩
 obtain ⟨t, ht⟩ : ∃ t, timeOk T = t := ⟨_, rfl⟩
 have HK := Lib.hid (keyOk_form R C T hr hc ht)
 have HN := Lib.hid (And.intro hr (And.intro hc ht))
 clear hr hc ht
 go_enter Try.func53, Try.ntmps53
 go_wp2_with fail
 refine (implName R hR _).mono ?_
 rw [HN.out.1]
 rintro e w1 ⟨rfl, n1, rfl⟩
 cases r
 · go_wp2
   go_ret
   exact ⟨ret_text (a := []) (by rw [keyOf_no (by rw [HK.out]; rfl)]), below_draws _⟩
 go_wp2_with fail
 refine (implName C hC _).mono ?_
 rw [HN.out.2.1]
 rintro e w1 ⟨rfl, n2, rfl⟩
 cases c
 · go_wp2
   go_ret
   exact ⟨ret_text (a := []) (by rw [keyOf_no (by rw [HK.out]; rfl)]), below_draws _⟩
 go_wp2_with fail
 refine (implTime T _).mono ?_
 rw [HN.out.2.2]
 rintro e w1 ⟨rfl, rfl⟩
 cases t
 · go_wp2
   go_ret
   exact ⟨ret_text (a := []) (by rw [keyOf_no (by rw [HK.out]; rfl)]), below_draws _⟩
 have hb := time_bd HN.out.2.2
 have hr16 := (name_parts HN.out.1).2.2
 have hc16 := (name_parts HN.out.2.1).2.2
 simp only [Array.length_toList, ByteArray.size_data] at hr16 hc16
 obtain ⟨m, hm⟩ : ∃ m : Nat, 1000000000 - T = (m : Int) := ⟨(1000000000 - T).toNat, by omega⟩
 have HM := Lib.hid (show (1000000000 - T).toNat = m by omega)
 have hm9 : (m : Int) ≤ 1000000000 := by omega
 have q1 : R.size + 1 ≤ 1000 := by omega
 have q2 : R.size + 1 + C.size ≤ 1000 := by omega
 have q3 : R.size + 1 + C.size + 1 ≤ 1000 := by omega
 go_wp2_with fail
 refine (implPutFix_in m 4 _ (by omega) (by omega) (by omega)).mono ?_
 intro e w1 h1
 obtain ⟨S, hS, hSz, rfl, hb1⟩ := h1.text
 rw [fix_length] at hSz
 have HS := Lib.hid hS
 have HB1 := Lib.hid ((below_draws (B := w.heap.size) (w := w) (n1 + n2)).trans (hb1.mono (by simp)))
 clear h1 hS hb1
 go_wp2_with fail
 refine (implReversed S (by omega) _).mono ?_
 intro e w2 h2
 obtain ⟨S2, hS2, hS2z, rfl, hb2⟩ := h2.text
 rw [HS.out, List.length_reverse, fix_length] at hS2z
 have HS2 := Lib.hid (show S2.data.toList = (fixB (1000000000 - T).toNat 4).reverse by rw [hS2, HS.out, HM.out])
 have HB2 := Lib.hid (HB1.out.trans (hb2.mono HB1.out.size))
 have q4 : R.size + 1 + C.size + 1 + S2.size ≤ 1000 := by omega
 clear h2 hS2 hb2
 go_wp2
 go_ret
 exact ⟨by rw [keyOf_yes HK.out, ← key_text R C S2 T HS2.out]; rfl, HB2.out⟩

set_option maxHeartbeats 2000000 in
set_option maxRecDepth 100000 in
theorem specKeyOf (R C : ByteArray) (T : Int) (hR : R.size ≤ maxLen) (hC : C.size ≤ maxLen) (w : World) :
   Calls Try.prog 32 #[.string R, .string C, .int .i64 T] w (TextIs w (keyOf R.data.toList C.data.toList T)) := by
 obtain ⟨r, hr⟩ : ∃ r, nameOk R.data.toList = r := ⟨_, rfl⟩
 obtain ⟨c, hc⟩ : ∃ c, nameOk C.data.toList = c := ⟨_, rfl⟩
 obtain ⟨t, ht⟩ : ∃ t, timeOk T = t := ⟨_, rfl⟩
 have HK := Lib.hid (keyOk_form R C T hr hc ht)
 have HN := Lib.hid (And.intro hr (And.intro hc ht))
 clear hr hc ht
 go_enter Try.func32, Try.ntmps32
 go_wp2_with fail
 refine (specName R hR _).mono ?_
 rw [HN.out.1]
 rintro e w1 ⟨rfl, n1, rfl⟩
 cases r
 · go_wp2
   go_ret
   exact ⟨ret_text (a := []) (by rw [keyOf_no (by rw [HK.out]; rfl)]), below_draws _⟩
 go_wp2_with fail
 refine (specName C hC _).mono ?_
 rw [HN.out.2.1]
 rintro e w1 ⟨rfl, n2, rfl⟩
 cases c
 · go_wp2
   go_ret
   exact ⟨ret_text (a := []) (by rw [keyOf_no (by rw [HK.out]; rfl)]), below_draws _⟩
 go_wp2_with fail
 refine (specTime T _).mono ?_
 rw [HN.out.2.2]
 rintro e w1 ⟨rfl, rfl⟩
 cases t
 · go_wp2
   go_ret
   exact ⟨ret_text (a := []) (by rw [keyOf_no (by rw [HK.out]; rfl)]), below_draws _⟩
 have hb := time_bd HN.out.2.2
 have hr16 := (name_parts HN.out.1).2.2
 have hc16 := (name_parts HN.out.2.1).2.2
 simp only [Array.length_toList, ByteArray.size_data] at hr16 hc16
 obtain ⟨m, hm⟩ : ∃ m : Nat, 1000000000 - T = (m : Int) := ⟨(1000000000 - T).toNat, by omega⟩
 have HM := Lib.hid (show (1000000000 - T).toNat = m by omega)
 have hm9 : (m : Int) ≤ 1000000000 := by omega
 have q1 : R.size + 1 ≤ 1000 := by omega
 have q2 : R.size + 1 + C.size ≤ 1000 := by omega
 have q3 : R.size + 1 + C.size + 1 ≤ 1000 := by omega
 obtain ⟨S, hS, hSz, hcv⟩ := four_text (w.drewN (n1 + n2)) m (by omega)
 simp only [World.heap_drewN] at hcv
 have HS := Lib.hid (show S.data.toList = (fixB (1000000000 - T).toNat 4).reverse by rw [hS, HM.out])
 have q4 : R.size + 1 + C.size + 1 + S.size ≤ 1000 := by omega
 clear hS
 go_wp2
 go_ret
 exact ⟨by rw [keyOf_yes HK.out, ← key_text R C S T HS.out]; rfl, (below_draws _).alloc (by simp) _⟩
end Go.Proofs.Ytkomnnijnggbpaa
