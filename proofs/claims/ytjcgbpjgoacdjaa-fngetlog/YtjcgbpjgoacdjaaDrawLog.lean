/- The model's draws for logs. -/
import Derived.Test.YtjcgbpjgoacdjaaZ1
import Derived.Test.YtjcgbpjgoacdjaaZ0
import Derived.Test.YtjcgbpjgoacdjaaDrawText
import Derived.Test.YtjcgbpjgoacdjaaZ4
import Derived.Test.YtjcgbpjgoacdjaaBent
import Derived.Test.YtjcgbpjgoacdjaaZ5
namespace Go.Proofs.Ytjcgbpjgoacdjaa
open Go.RowKit
set_option linter.unusedVariables false

set_option maxHeartbeats 1000000 in
set_option maxRecDepth 100000 in
theorem l08Text_at (T p : Nat) (a : Option Addr) (len cap : Nat) (zs : List Int) (i : Nat) (h : Int) (w : World) (cu : CurAt w T p a len cap zs i h) :
   Calls Try.prog 56 #[.pointer (some ⟨p, 0, none⟩)] w (SomeStr (fun x => x.size ≤ 130) T p a len cap zs w) := by
 have C0 := Lib.hid cu
 have hpl := cu.lt
 clear cu
 go_enter Try.func56, Try.ntmps56
 go_wp2_with fail
 refine (l01Text_at _ _ _ _ _ _ _ _ 1 _ C0.out (by omega)).mono ?_
 rintro e w1 ⟨A, i1, h1, hA, rfl, c1, g1⟩
 have C1 := Lib.hid c1
 have G1 := Lib.hid g1
 have hp1 : p < w1.heap.size := c1.lt
 clear c1 g1
 go_wp2_with fail
 refine (l01PickInt_at (fun x => 0 ≤ x ∧ x ≤ 120) T p a len cap zs i1 h1 w1.heap.size 10 10 _ (C1.out.new _) (by omega) (by omega) (by simp) (by omega) (new_ints w1 [0, 1, 5, 49, 50, 56, 57, 58, 100, 120] 3 (by decide))).mono ?_
 rintro e w2 ⟨x, i2, h2, hx, rfl, c2, g2⟩
 have hx : 0 ≤ x ∧ x ≤ 120 := hx
 obtain ⟨x, rfl⟩ := Int.eq_ofNat_of_zero_le hx.1
 have C2 := Lib.hid c2
 have G2 := Lib.hid ((G1.out.trans (World.grownBy_alloc w1 _ (some p))).trans g2)
 have hm := zeros_made x w2 (by omega)
 have hz := zeros_text x w2
 obtain ⟨Z, hZ⟩ : ∃ Z : ByteArray, (⟨(List.replicate x 0).toArray⟩ : ByteArray) = Z := ⟨_, rfl⟩
 have hZs : Z.size ≤ 120 := by rw [← hZ, zero_list]; omega
 rw [hZ] at hz
 have q1 : ¬ 9223372036854775807 < A.size + Z.size := by omega
 have q2 : ¬ 9223372036854775807 < 1 + Z.size := by omega
 clear hZ c2 g2
 go_wp2_with fail
 go_ret
 exact ⟨A ++ Z, i2, h2, by show (A ++ Z).size ≤ 130; rw [ByteArray.size_append]; omega, rfl, C2.out.new _, G2.out.trans (World.grownBy_alloc w2 _ (some p))⟩
def SomeRecs (T p : Nat) (a : Option Addr) (len cap : Nat) (zs : List Int) (w : World) (e : Ending) (w' : World) : Prop :=
 ∃ (v : Value) (xs : List ByteArray) (i : Nat) (h : Int), e = .returned v ∧ xs.length ≤ 4 ∧ (∀ x ∈ xs, x.size ≤ 130) ∧ Keyed w w' T p a len cap zs i h v xs

set_option maxHeartbeats 2000000 in
set_option maxRecDepth 100000 in
theorem l08Records_at (T p : Nat) (a : Option Addr) (len cap : Nat) (zs : List Int) (i : Nat) (h : Int) (w : World) (cu : CurAt w T p a len cap zs i h) :
   Calls Try.prog 44 #[.pointer (some ⟨p, 0, none⟩)] w (SomeRecs T p a len cap zs w) := by
 have hpl := cu.lt
 have HRL := Lib.hid cu.rowlt
 have D0 := Lib.hid (show Keyed w (w.alloc (.cells #[] 9)) T p a len cap zs i h (.slice (some ⟨w.heap.size, 0, none⟩) 0 0) [] from ⟨owns_made w, cu.new _, World.grownBy_alloc _ _ _⟩)
 clear cu
 go_enter Try.func44, Try.ntmps44
 go_wp2_with fail
 refine (l01Below_any _ _ _ _ _ _ _ _ 5 _ D0.out.cur (by omega) (by omega)).mono ?_
 rintro e w1 ⟨N, i1, h1, hN0, hN1, rfl, c1, g1⟩
 obtain ⟨N, rfl⟩ := Int.eq_ofNat_of_zero_le hN0
 have hN : N ≤ 4 := by omega
 have D1 := Lib.hid (D0.out.draw hpl g1 c1)
 clear c1 g1 hN0 hN1
 go_wp2_with fail
 go_loopw [3, 5] (fun vv ii wr => ∃ (j ih : Nat) (hh : Int) (xs : List ByteArray), j ≤ N ∧ ii = .int .i64 j ∧ xs.length = j ∧ Hid (Keyed w wr T p a len cap zs ih hh vv xs ∧ ∀ x ∈ xs, x.size ≤ 130)) (fun _ ii _ => N - (intOf ii).toNat)
 case atStart => exact ⟨0, i1, h1, [], by omega, rfl, rfl, ⟨D1.out, fun x hx => by simp at hx⟩⟩
 case round =>
   obtain ⟨j, ih, hh, xs, hj, rfl, hxl, HX⟩ := hrel
   obtain ⟨ad, cp, hv⟩ := HX.out.1.own.form
   rw [hxl] at hv
   subst hv
   have HL := Lib.hid hxl
   clear hxl
   by_cases hlt : j < N
   · have j1 : (j : Int) < (N : Int) := by omega
     go_wp2_with fail
     refine (l08Text_at _ _ _ _ _ _ _ _ _ HX.out.1.cur).mono ?_
     rintro e w4 ⟨A, i4, h4, hA, rfl, c4, g4⟩
     have hA : A.size ≤ 130 := hA
     have P4 := Lib.hid (HX.out.1.draw hpl g4 c4)
     have HS := Lib.hid HX.out.2
     clear c4 g4 HX
     go_wp2_with fail
     refine (l08Text_at _ _ _ _ _ _ _ _ _ P4.out.cur).mono ?_
     rintro e w5 ⟨B, i5, h5, hB, rfl, c5, g5⟩
     have hB : B.size ≤ 130 := hB
     have P5 := Lib.hid (P4.out.draw hpl g5 c5)
     clear c5 g5
     go_wp2_with fail
     refine (l01Pick_at (fun x => x.size ≤ 130) _ _ _ _ _ _ _ _ w5.heap.size 4 4 _ (P5.out.cur.new _) (by omega) (by omega) (by simp) (by have := P5.out.cur.lt; omega) (new_strs w5 [⟨#[]⟩, A, B, ⟨#[115, 104, 111, 114, 116]⟩] 9 (fun x hx => by
       simp only [List.mem_cons, List.not_mem_nil, or_false] at hx
       rcases hx with rfl | rfl | rfl | rfl
       · decide
       · exact hA
       · exact hB
       · decide))).mono ?_
     rintro e w6 ⟨y, i6, h6, hy, rfl, c6, g6⟩
     have hy : y.size ≤ 130 := hy
     have P6 := Lib.hid ((P5.out.new (.cells #[.string ⟨#[]⟩, .string A, .string B, .string ⟨#[115, 104, 111, 114, 116]⟩] 9)).draw hpl g6 c6)
     have N7 := Lib.hid (new_text w6 y)
     have P7 := Lib.hid (P6.out.new (.cells #[.string y] 9))
     clear c6 g6
     go_wp2_with (at_builtin; refine wpList_plain rfl (fun K hK => ?_); refine op_pushW [y] _ _ rfl rfl rfl rfl N7.out P7.out.own P7.out.grow.size (by rw [HL.out]; simp; omega) ?_; intro v7 w7 o7 gr7; refine hK _ _ ?_; clear hK K; have P8 := Lib.hid (P7.out.push hpl HRL.out o7 gr7); clear o7 gr7)
     go_roundw
     case rel =>
       refine ⟨j + 1, i6, h6, xs ++ [y], by omega, by go_num, by rw [List.length_append, HL.out]; rfl, ⟨P8.out, fun x hx => ?_⟩⟩
       rcases List.mem_append.1 hx with hm | hm
       · exact HS.out x hm
       · rw [List.mem_singleton.1 hm]; exact hy
     case measure => simp [intOf]; omega
   · go_wp2
     go_ret
     exact ⟨_, xs, ih, hh, rfl, by have := HL.out; omega, HX.out.2, HX.out.1⟩
theorem recs_few {xs : List ByteArray} (h : ∀ x ∈ xs, x.size ≤ 300) : recsOk (lists xs) := fun r hr => by
 obtain ⟨x, hx, rfl⟩ := List.mem_map.1 hr
 have h1 := h x hx
 have h2 : x.data.toList.length = x.size := by simp
 omega
theorem log_short {rs : List (List UInt8)} (h : recsOk rs) : ∀ n, (logFrom n rs).length ≤ 8200 * rs.length := by
 induction rs with
 | nil => intro n; simp [logFrom]
 | cons r rs ih =>
   intro n
   have h1 := ih (fun t ht => h t (by simp [ht])) (n + (putRec n true r).length)
   have h2 := rec_short (n := n) (first := true) (h r (by simp))
   rw [logFrom, List.length_append, List.length_cons]
   omega
def RecsOf (w : World) (e : Ending) (w' : World) : Prop := ∃ (ad : Option Addr) (n c : Nat) (xs : List ByteArray), e = .returned (.slice ad n c) ∧ n ≤ 5 ∧ StrAt w' ad n c xs ∧ (∀ x ∈ xs, x.size ≤ 301) ∧ Below w.heap.size w w'
def LogText (n : Nat) (w : World) (e : Ending) (w' : World) : Prop := ∃ s : ByteArray, s.size ≤ n ∧ e = .returned (.string s) ∧ Below w.heap.size w w'

set_option maxHeartbeats 1000000 in
set_option maxRecDepth 100000 in
theorem drawPutLog_at (a : Option Addr) (len cap : Nat) (zs : List Int) (w : World) (hr : Bytes w w.heap.size a len zs) :
   Calls Try.prog 17 #[.slice a len cap] w (RecsOf w) := by
 have HR := Lib.hid hr
 clear hr
 go_enter Try.func17, Try.ntmps17
 go_wp2_with fail
 refine (l01New_at a len cap zs _ HR.out).mono ?_
 rintro e w1 ⟨rfl, ⟨h, c1⟩, g0⟩
 have C1 := Lib.hid c1
 have hpl := c1.lt
 have HRL := Lib.hid c1.rowlt
 have G0 := Lib.hid g0
 clear c1 g0
 go_wp2_with fail
 refine (l08Records_at _ _ _ _ _ _ _ _ _ C1.out).mono ?_
 rintro e w2 ⟨v, xs, i2, h2, rfl, hn, hsz, k2⟩
 obtain ⟨ad, cp, rfl⟩ := k2.own.form
 obtain ⟨n, hxn⟩ : ∃ n, xs.length = n := ⟨_, rfl⟩
 have HXN := Lib.hid hxn
 have K2 := Lib.hid k2
 rw [hxn] at hn K2 ⊢
 clear k2 hxn
 go_wp2_with fail
 refine (l01Once_at _ _ _ _ _ _ _ _ 12 _ K2.out.cur (by omega) (by omega)).mono ?_
 rintro e w3 ⟨b, i3, h3, rfl, c3, g3⟩
 have K3 := Lib.hid (K2.out.draw hpl g3 c3)
 clear c3 g3
 cases b
 · go_wp2_with fail
   go_ret
   exact ⟨ad, n, cp, xs, rfl, by omega, by have := K3.out.own; rw [← HXN.out] at this ⊢; exact this.row, fun x hx => by have := hsz x hx; omega, below_new G0.out K3.out.grow⟩
 · go_wp2_with fail
   refine (l01Below_any _ _ _ _ _ _ _ _ 2 _ K3.out.cur (by omega) (by omega)).mono ?_
   rintro e w4 ⟨x, i4, h4, hx0, hx1, rfl, c4, g4⟩
   obtain ⟨x, rfl⟩ := Int.eq_ofNat_of_zero_le hx0
   have K4 := Lib.hid (K3.out.draw hpl g4 c4)
   clear c4 g4
   obtain ⟨y, hy⟩ : ∃ y : Nat, 300 + x = y := ⟨_, rfl⟩
   have hm := zeros_made y w4 (by omega)
   have hz := zeros_text y w4
   have hyi : (300 : Int) + (x : Int) = (y : Int) := by omega
   obtain ⟨Z, hZ⟩ : ∃ Z : ByteArray, (⟨(List.replicate y 0).toArray⟩ : ByteArray) = Z := ⟨_, rfl⟩
   have hZs : Z.size ≤ 301 := by rw [← hZ, zero_list]; omega
   rw [hZ] at hz
   clear hZ hy
   have K5 := Lib.hid (K4.out.new (zerosObj y))
   obtain ⟨w5, hw5⟩ : ∃ W, w4.alloc (zerosObj y) = W := ⟨_, rfl⟩
   rw [hw5] at K5
   rw [hw5] at hm hz
   have N6 := Lib.hid (new_text w5 Z)
   have K6 := Lib.hid (K5.out.new (.cells #[.string Z] 9))
   go_wp2_with (at_builtin; refine wpList_plain rfl (fun K hK => ?_); refine op_pushW [Z] _ _ rfl rfl rfl rfl N6.out K6.out.own K6.out.grow.size (by rw [HXN.out]; simp; omega) ?_; intro v7 w7 o7 gr7; refine hK _ _ ?_; clear hK K; have K7 := Lib.hid (K6.out.push hpl HRL.out o7 gr7); clear o7 gr7)
   go_ret
   obtain ⟨ad7, cp7, rfl⟩ := K7.out.own.form
   refine ⟨ad7, (xs ++ [Z]).length, cp7, xs ++ [Z], rfl, ?_, K7.out.own.row, fun t ht => ?_, below_new G0.out K7.out.grow⟩
   · rw [List.length_append, HXN.out]
     show n + 1 ≤ 5
     omega
   · rcases List.mem_append.1 ht with h1 | h1
     · have := hsz t h1; omega
     · rw [List.mem_singleton.1 h1]; exact hZs

theorem drawn_log {xs : List ByteArray} (hn : xs.length ≤ 4) (h : ∀ x ∈ xs, x.size ≤ 130) : (putLogB (lists xs)).length ≤ 32800 := by
 have h1 := recs_few (fun x hx => Nat.le_trans (h x hx) (by omega))
 unfold putLogB
 rw [if_pos h1]
 have h2 := log_short h1 0
 rw [lists_len] at h2
 unfold logB
 omega
theorem fit_drawn {xs : List ByteArray} (h : ∀ x ∈ xs, x.size ≤ 130) : FitS xs := fun x hx => Nat.le_trans (h x hx) (by unfold maxLen; omega)

set_option maxHeartbeats 1000000 in
set_option maxRecDepth 100000 in
theorem drawGetLog_at (a : Option Addr) (len cap : Nat) (zs : List Int) (w : World) (hr : Bytes w w.heap.size a len zs) :
   Calls Try.prog 23 #[.slice a len cap] w (LogText 33000 w) := by
 have HR := Lib.hid hr
 clear hr
 go_enter Try.func23, Try.ntmps23
 go_wp2_with fail
 refine (l01New_at a len cap zs _ HR.out).mono ?_
 rintro e w1 ⟨rfl, ⟨h, c1⟩, g0⟩
 have C1 := Lib.hid c1
 have hpl := c1.lt
 have G0 := Lib.hid g0
 clear c1 g0
 go_wp2_with fail
 refine (l08Records_at _ _ _ _ _ _ _ _ _ C1.out).mono ?_
 rintro e w2 ⟨v, xs, i2, h2, rfl, hn, hsz, k2⟩
 obtain ⟨ad, cp, rfl⟩ := k2.own.form
 have K2 := Lib.hid k2
 have HSZ := Lib.hid hsz
 have hdl := drawn_log hn hsz
 clear k2 hsz
 go_wp2_with fail
 refine (specPutLog ad xs.length cp xs (by omega) (fit_drawn HSZ.out) _ K2.out.own.row).mono ?_
 intro e w3 h3
 obtain ⟨S, hS, hSl, rfl, b3⟩ := h3.text
 have hSs : S.size ≤ 32800 := by omega
 have K3 := Lib.hid (K2.out.below b3)
 clear h3 hS hSl b3 hdl
 go_wp2_with fail
 refine (l01Bent_at _ _ _ _ _ _ _ _ S _ K3.out.cur (by omega)).mono ?_
 rintro e w4 ⟨r, i4, h4, hr, rfl, c4, g4⟩
 have hr : r.size ≤ S.size + 2 := hr
 have G4 := Lib.hid (K3.out.grow.trans g4)
 clear c4 g4
 go_wp2_with fail
 go_ret
 exact ⟨r, by omega, rfl, below_new G0.out G4.out⟩

set_option maxHeartbeats 2000000 in
set_option maxRecDepth 100000 in
theorem drawRecover_at (a : Option Addr) (len cap : Nat) (zs : List Int) (w : World) (hr : Bytes w w.heap.size a len zs) :
   Calls Try.prog 29 #[.slice a len cap] w (LogText 33000 w) := by
 have HR := Lib.hid hr
 clear hr
 go_enter Try.func29, Try.ntmps29
 go_wp2_with fail
 refine (l01New_at a len cap zs _ HR.out).mono ?_
 rintro e w1 ⟨rfl, ⟨h, c1⟩, g0⟩
 have C1 := Lib.hid c1
 have hpl := c1.lt
 have G0 := Lib.hid g0
 clear c1 g0
 go_wp2_with fail
 refine (l08Records_at _ _ _ _ _ _ _ _ _ C1.out).mono ?_
 rintro e w2 ⟨v, xs, i2, h2, rfl, hn, hsz, k2⟩
 obtain ⟨ad, cp, rfl⟩ := k2.own.form
 have K2 := Lib.hid k2
 have HSZ := Lib.hid hsz
 have hdl := drawn_log hn hsz
 clear k2 hsz
 go_wp2_with fail
 refine (specPutLog ad xs.length cp xs (by omega) (fit_drawn HSZ.out) _ K2.out.own.row).mono ?_
 intro e w3 h3
 obtain ⟨S, hS, hSl, rfl, b3⟩ := h3.text
 have hSs : S.size ≤ 32800 := by omega
 have K3 := Lib.hid (K2.out.below b3)
 clear h3 hS hSl b3 hdl
 go_wp2_with fail
 refine (l01Below_any _ _ _ _ _ _ _ _ 4 _ K3.out.cur (by omega) (by omega)).mono ?_
 rintro e w4 ⟨k, i4, h4, hk0, hk1, rfl, c4, g4⟩
 have K4 := Lib.hid (K3.out.draw hpl g4 c4)
 clear c4 g4
 by_cases k0 : k = 0
 · subst k0
   go_wp2_with fail
   refine (l01Bent_at _ _ _ _ _ _ _ _ S _ K4.out.cur (by omega)).mono ?_
   rintro e w5 ⟨r, i5, h5, hr, rfl, c5, g5⟩
   have hr : r.size ≤ S.size + 2 := hr
   have G5 := Lib.hid (K4.out.grow.trans g5)
   clear c5 g5
   go_wp2_with fail
   go_ret
   exact ⟨r, by omega, rfl, below_new G0.out G5.out⟩
 by_cases k1 : k = 1
 · subst k1
   go_wp2_with fail
   refine (l01Below_any _ _ _ _ _ _ _ _ ((S.size : Int) + 1) _ K4.out.cur (by omega) (by omega)).mono ?_
   rintro e w5 ⟨x, i5, h5, hx0, hx1, rfl, c5, g5⟩
   obtain ⟨x, rfl⟩ := Int.eq_ofNat_of_zero_le hx0
   have G5 := Lib.hid (K4.out.grow.trans g5)
   have j0 : (0 : Int) ≤ (x : Int) := by omega
   have j1 : (x : Int) ≤ (S.size : Int) := by omega
   clear c5 g5
   have hes : (S.extract 0 x).size ≤ 33000 := by rw [ByteArray.size_extract]; omega
   go_wp2_with fail
   go_ret
   exact ⟨S.extract 0 x, hes, rfl, below_new G0.out G5.out⟩
 · go_wp2_with fail
   go_ret
   exact ⟨S, by omega, rfl, below_new G0.out K4.out.grow⟩
end Go.Proofs.Ytjcgbpjgoacdjaa
