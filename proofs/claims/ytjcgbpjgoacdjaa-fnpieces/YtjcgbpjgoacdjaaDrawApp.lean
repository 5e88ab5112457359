/- The model's draw of a log and a record behind it. -/
import Derived.Test.YtjcgbpjgoacdjaaDrawLog
import Derived.Test.YtjcgbpjgoacdjaaZ0
namespace Go.Proofs.Ytjcgbpjgoacdjaa
open Go.RowKit
set_option linter.unusedVariables false

def TwoText (m n : Nat) (w : World) (e : Ending) (w' : World) : Prop := ∃ s r : ByteArray, s.size ≤ m ∧ r.size ≤ n ∧ e = .returned (.tuple #[.string s, .string r]) ∧ Below w.heap.size w w'

set_option maxHeartbeats 4000000 in
set_option maxRecDepth 100000 in
theorem drawAppend_at (a : Option Addr) (len cap : Nat) (zs : List Int) (w : World) (hr : Bytes w w.heap.size a len zs) :
   Calls Try.prog 34 #[.slice a len cap] w (TwoText 33000 400 w) := by
 have HR := Lib.hid hr
 clear hr
 go_enter Try.func34, Try.ntmps34
 go_wp2_with fail
 refine (l01New_at a len cap zs _ HR.out).mono ?_
 rintro e w1 ⟨rfl, ⟨h, c1⟩, g0⟩
 have C1 := Lib.hid c1
 have hpl := c1.lt
 have G0 := Lib.hid g0
 clear c1 g0
 go_wp2_with fail
 refine (l08Records_at _ _ _ _ _ _ _ _ _ C1.out).mono ?_
 rintro e w2 ⟨v, xs, i2, h2, rfl, hn, hsz, k2⟩
 obtain ⟨ad, cp, rfl⟩ := k2.own.form
 have K2 := Lib.hid k2
 have HSZ := Lib.hid hsz
 have hdl := drawn_log hn hsz
 clear k2 hsz
 go_wp2_with fail
 refine (specPutLog ad xs.length cp xs (by omega) (fit_drawn HSZ.out) _ K2.out.own.row).mono ?_
 intro e w3 h3
 obtain ⟨S, hS, hSl, rfl, b3⟩ := h3.text
 have hSs : S.size ≤ 33000 := by omega
 have K3 := Lib.hid (K2.out.below b3)
 clear h3 hS hSl b3 hdl
 go_wp2_with fail
 refine (l01Once_at _ _ _ _ _ _ _ _ 6 _ K3.out.cur (by omega) (by omega)).mono ?_
 rintro e w4 ⟨b, i4, h4, rfl, c4, g4⟩
 have K4 := Lib.hid (K3.out.draw hpl g4 c4)
 clear c4 g4
 cases b
 · go_wp2_with fail
   refine (l01Once_at _ _ _ _ _ _ _ _ 12 _ K4.out.cur (by omega) (by omega)).mono ?_
   rintro e w5 ⟨b5, i5, h5, rfl, c5, g5⟩
   have K5 := Lib.hid (K4.out.draw hpl g5 c5)
   clear c5 g5
   cases b5
   · go_wp2_with fail
     refine (l08Text_at _ _ _ _ _ _ _ _ _ K5.out.cur).mono ?_
     rintro e w6 ⟨A, i6, h6, hA, rfl, c6, g6⟩
     have hA : A.size ≤ 130 := hA
     have K6 := Lib.hid (K5.out.draw hpl g6 c6)
     clear c6 g6
     go_wp2_with fail
     go_ret2
     exact ⟨S, A, by omega, by omega, rfl, below_new G0.out K6.out.grow⟩
   · go_wp2_with fail
     refine wp_region_held_drew (S := (fun _ => True)) (by kernel_rfl) trivial (fun hHeld => ?_)
     refine take_at (i := 0) (d := some 19) (v := ?_) rfl rfl (by kernel_rfl) (by kernel_rfl) (by kernel_rfl) (fun _ _ _ h => h) (by rfl) ?hy ?_
     case hy => (intro w; go_simp <;> with_reducible rfl)
     simp only [Act.put, sA, sB, sC]
     refine take_at (i := 1) (d := some 20) (v := ?_) rfl rfl (by kernel_rfl) (by kernel_rfl) (by kernel_rfl) (fun _ _ _ h => h) (by rfl) ?hy ?_
     case hy => (intro w; go_simp <;> with_reducible rfl)
     simp only [Act.put, sA, sB, sC]
     refine wpAnyH_ready (rs := [2]) (by kernel_rfl) (by simp) ?_
     refine AllReadyH.cons rfl (fun K hK => ?_) AllReadyH.nil
     go_simp
     have K5 := Lib.hid (K5.out.below (show Below _ _ w5.drew from below_draws (w := w5) 1))
     refine (l01Below_any _ _ _ _ _ _ _ _ 2 _ K5.out.cur (by omega) (by omega)).mono ?_
     rintro e w6 ⟨x, i6, h6, hx0, hx1, rfl, c6, g6⟩
     obtain ⟨x, rfl⟩ := Int.eq_ofNat_of_zero_le hx0
     have K6 := Lib.hid (K5.out.draw hpl g6 c6)
     clear c6 g6
     obtain ⟨y, hy⟩ : ∃ y : Nat, 300 + x = y := ⟨_, rfl⟩
     have hm := zeros_made y w6 (by omega)
     have hz := zeros_text y w6
     have hyi : (300 : Int) + (x : Int) = (y : Int) := by omega
     obtain ⟨Z, hZ⟩ : ∃ Z : ByteArray, (⟨(List.replicate y 0).toArray⟩ : ByteArray) = Z := ⟨_, rfl⟩
     have hZs : Z.size ≤ 301 := by rw [← hZ, zero_list]; omega
     rw [hZ] at hz
     have hyw : IntKind.i64.wrap (y : Int) = (y : Int) := IntWalk.i64_in _ (by omega)
     clear hZ hy
     go_wp2_with fail
     refine hK.out _ _ trivial (fun hHeld => ?_)
     clear hK K
     refine take_at (i := 6) (d := some 2) (v := ?_) rfl rfl (by kernel_rfl) (by kernel_rfl) (by kernel_rfl) (fun _ _ _ h => h) (by rfl) ?hy ?_
     case hy => (intro w; go_simp <;> with_reducible rfl)
     simp only [Act.put, sA, sB, sC]
     refine take_at (i := 3) (d := some 22) (v := .int .i64 (y : Int)) rfl rfl (by kernel_rfl) (by kernel_rfl) (by kernel_rfl) (fun _ _ _ h => h) (by rfl) ?hy ?_
     case hy => (intro w; go_simp <;> first | with_reducible rfl | exact hyw)
     simp only [Act.put, sA, sB, sC]
     refine wpAnyH_ready (rs := [4]) (by kernel_rfl) (by simp) ?_
     refine AllReadyH.cons rfl (fun K hK => ?_) AllReadyH.nil
     go_simp
     skip
     refine hK.out _ _ trivial (fun hHeld => ?_)
     clear hK K
     refine wpAnyH_ready (rs := [5]) (by kernel_rfl) (by simp) ?_
     refine AllReadyH.cons rfl (fun K hK => ?_) AllReadyH.nil
     go_simp
     skip
     refine hK.out _ _ trivial (fun hHeld => ?_)
     clear hK K
     refine take_at (i := 7) (d := some 3) (v := ?_) rfl rfl (by kernel_rfl) (by kernel_rfl) (by kernel_rfl) (fun _ _ _ h => h) (by rfl) ?hy ?_
     case hy => (intro w; go_simp <;> with_reducible rfl)
     simp only [Act.put, sA, sB, sC]
     refine wpAnyH_done (by kernel_rfl) ?_ _
     go_wp2_with fail
     go_ret2
     exact ⟨S, Z, by omega, by omega, rfl, below_new G0.out (K6.out.new (zerosObj y)).grow⟩
 · clear hSs
   go_wp2_with fail
   refine (l01Below_any _ _ _ _ _ _ _ _ 130 _ K4.out.cur (by omega) (by omega)).mono ?_
   rintro e w6 ⟨x, i6, h6, hx0, hx1, rfl, c6, g6⟩
   obtain ⟨x, rfl⟩ := Int.eq_ofNat_of_zero_le hx0
   have K6 := Lib.hid (K4.out.draw hpl g6 c6)
   clear c6 g6
   have hm := zeros_made x w6 (by omega)
   have hz := zeros_text x w6
   obtain ⟨S, hZ⟩ : ∃ Z : ByteArray, (⟨(List.replicate x 0).toArray⟩ : ByteArray) = Z := ⟨_, rfl⟩
   have hSs : S.size ≤ 33000 := by rw [← hZ, zero_list]; omega
   rw [hZ] at hz
   have K7 := Lib.hid (K6.out.new (zerosObj x))
   clear hZ
   go_wp2_with fail
   refine (l01Once_at _ _ _ _ _ _ _ _ 12 _ K7.out.cur (by omega) (by omega)).mono ?_
   rintro e w5 ⟨b5, i5, h5, rfl, c5, g5⟩
   have K5 := Lib.hid (K7.out.draw hpl g5 c5)
   clear c5 g5
   cases b5
   · go_wp2_with fail
     refine (l08Text_at _ _ _ _ _ _ _ _ _ K5.out.cur).mono ?_
     rintro e w6 ⟨A, i6, h6, hA, rfl, c6, g6⟩
     have hA : A.size ≤ 130 := hA
     have K6 := Lib.hid (K5.out.draw hpl g6 c6)
     clear c6 g6
     go_wp2_with fail
     go_ret2
     exact ⟨S, A, by omega, by omega, rfl, below_new G0.out K6.out.grow⟩
   · go_wp2_with fail
     refine wp_region_held_drew (S := (fun _ => True)) (by kernel_rfl) trivial (fun hHeld => ?_)
     refine take_at (i := 0) (d := some 19) (v := ?_) rfl rfl (by kernel_rfl) (by kernel_rfl) (by kernel_rfl) (fun _ _ _ h => h) (by rfl) ?hy ?_
     case hy => (intro w; go_simp <;> with_reducible rfl)
     simp only [Act.put, sA, sB, sC]
     refine take_at (i := 1) (d := some 20) (v := ?_) rfl rfl (by kernel_rfl) (by kernel_rfl) (by kernel_rfl) (fun _ _ _ h => h) (by rfl) ?hy ?_
     case hy => (intro w; go_simp <;> with_reducible rfl)
     simp only [Act.put, sA, sB, sC]
     refine wpAnyH_ready (rs := [2]) (by kernel_rfl) (by simp) ?_
     refine AllReadyH.cons rfl (fun K hK => ?_) AllReadyH.nil
     go_simp
     have K5 := Lib.hid (K5.out.below (show Below _ _ w5.drew from below_draws (w := w5) 1))
     refine (l01Below_any _ _ _ _ _ _ _ _ 2 _ K5.out.cur (by omega) (by omega)).mono ?_
     rintro e w6 ⟨x, i6, h6, hx0, hx1, rfl, c6, g6⟩
     obtain ⟨x, rfl⟩ := Int.eq_ofNat_of_zero_le hx0
     have K6 := Lib.hid (K5.out.draw hpl g6 c6)
     clear c6 g6
     obtain ⟨y, hy⟩ : ∃ y : Nat, 300 + x = y := ⟨_, rfl⟩
     have hm := zeros_made y w6 (by omega)
     have hz := zeros_text y w6
     have hyi : (300 : Int) + (x : Int) = (y : Int) := by omega
     obtain ⟨Z, hZ⟩ : ∃ Z : ByteArray, (⟨(List.replicate y 0).toArray⟩ : ByteArray) = Z := ⟨_, rfl⟩
     have hZs : Z.size ≤ 301 := by rw [← hZ, zero_list]; omega
     rw [hZ] at hz
     have hyw : IntKind.i64.wrap (y : Int) = (y : Int) := IntWalk.i64_in _ (by omega)
     clear hZ hy
     go_wp2_with fail
     refine hK.out _ _ trivial (fun hHeld => ?_)
     clear hK K
     refine take_at (i := 6) (d := some 2) (v := ?_) rfl rfl (by kernel_rfl) (by kernel_rfl) (by kernel_rfl) (fun _ _ _ h => h) (by rfl) ?hy ?_
     case hy => (intro w; go_simp <;> with_reducible rfl)
     simp only [Act.put, sA, sB, sC]
     refine take_at (i := 3) (d := some 22) (v := .int .i64 (y : Int)) rfl rfl (by kernel_rfl) (by kernel_rfl) (by kernel_rfl) (fun _ _ _ h => h) (by rfl) ?hy ?_
     case hy => (intro w; go_simp <;> first | with_reducible rfl | exact hyw)
     simp only [Act.put, sA, sB, sC]
     refine wpAnyH_ready (rs := [4]) (by kernel_rfl) (by simp) ?_
     refine AllReadyH.cons rfl (fun K hK => ?_) AllReadyH.nil
     go_simp
     skip
     refine hK.out _ _ trivial (fun hHeld => ?_)
     clear hK K
     refine wpAnyH_ready (rs := [5]) (by kernel_rfl) (by simp) ?_
     refine AllReadyH.cons rfl (fun K hK => ?_) AllReadyH.nil
     go_simp
     skip
     refine hK.out _ _ trivial (fun hHeld => ?_)
     clear hK K
     refine take_at (i := 7) (d := some 3) (v := ?_) rfl rfl (by kernel_rfl) (by kernel_rfl) (by kernel_rfl) (fun _ _ _ h => h) (by rfl) ?hy ?_
     case hy => (intro w; go_simp <;> with_reducible rfl)
     simp only [Act.put, sA, sB, sC]
     refine wpAnyH_done (by kernel_rfl) ?_ _
     go_wp2_with fail
     go_ret2
     exact ⟨S, Z, by omega, by omega, rfl, below_new G0.out (K6.out.new (zerosObj y)).grow⟩
end Go.Proofs.Ytjcgbpjgoacdjaa
