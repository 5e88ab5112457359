/- The model's draws of what a table is asked. -/
import Derived.Test.YtkomnnijnggbpaaGreatDoorDrawTable
import Derived.Test.YtkomnnijnggbpaaGreatDoorZ3
namespace Go.Proofs.YtkomnnijnggbpaaGreatDoor
open Go.RowKit
set_option linter.unusedVariables false
theorem res_tab4 {P : Program} {fn : Func} {p q r s : Tmp} (h : fn.results = #[.tmp p, .tmp q, .tmp r, .tmp s]) (tmps : Array Value) (w : World) : (results fn tmps).run P w = .ok (.tuple #[tmps.getD p undef, tmps.getD q undef, tmps.getD r undef, tmps.getD s undef]) w := by
 simp [results, h]
theorem res_tab3 {P : Program} {fn : Func} {p q r : Tmp} (h : fn.results = #[.tmp p, .tmp q, .tmp r]) (tmps : Array Value) (w : World) : (results fn tmps).run P w = .ok (.tuple #[tmps.getD p undef, tmps.getD q undef, tmps.getD r undef]) w := by
 simp [results, h]
def TabGetOf (w : World) (e : Ending) (w' : World) : Prop := ∃ (s R C : ByteArray) (t : Int), e = .returned (.tuple #[.string s, .string R, .string C, .int .i64 t]) ∧ s.size ≤ 140000 ∧ R.size ≤ 40 ∧ C.size ≤ 40 ∧ Below w.heap.size w w'
def TabTwoOf (w : World) (e : Ending) (w' : World) : Prop := ∃ (s R C : ByteArray), e = .returned (.tuple #[.string s, .string R, .string C]) ∧ s.size ≤ 140000 ∧ R.size ≤ 40 ∧ C.size ≤ 40 ∧ Below w.heap.size w w'
def loTexts : List ByteArray := [⟨#[]⟩, ⟨#[97, 112, 112, 108, 101]⟩, ⟨#[98]⟩, ⟨#[114, 111, 119, 49]⟩, ⟨#[122, 122]⟩]
def hiTexts : List ByteArray := [⟨#[]⟩, ⟨#[97, 112, 112, 108, 101, 115]⟩, ⟨#[114, 111, 119, 49, 48]⟩, ⟨#[122, 122, 122]⟩, ⟨#[98]⟩]

set_option maxHeartbeats 2000000 in
set_option maxRecDepth 100000 in
theorem drawTableGet_at (a : Option Addr) (len cap : Nat) (zs : List Int) (w : World) (hr : Bytes w w.heap.size a len zs) :
   Calls Tryz.prog 26 #[.slice a len cap] w (TabGetOf w) := by
 have HR := Lib.hid hr
 clear hr
 go_enter Tryz.func26, Tryz.ntmps26
 go_wp2_with fail
 refine (l01New_at a len cap zs _ HR.out).mono ?_
 rintro e w1 ⟨rfl, ⟨h, c1⟩, g0⟩
 have C1 := Lib.hid c1
 have hpl := c1.lt
 clear c1
 go_wp2_with fail
 refine (l07Table_at _ _ _ _ _ _ _ _ _ C1.out).mono ?_
 rintro e w3 ⟨s, i3, h3, hs, rfl, c3, g3⟩
 have hs : s.size ≤ 140000 := hs
 have C3 := Lib.hid c3
 have G3 := Lib.hid g3
 clear c3 g3
 go_wp2_with fail
 refine (l04Row_at _ _ _ _ _ _ _ _ _ C3.out).mono ?_
 rintro e w4 ⟨R, i4, h4, hR, rfl, c4, g4⟩
 have hR : R.size ≤ 40 := hR
 have C4 := Lib.hid c4
 have G4 := Lib.hid (G3.out.trans g4)
 clear c4 g4
 go_wp2_with fail
 refine (l04Col_at _ _ _ _ _ _ _ _ _ C4.out).mono ?_
 rintro e w5 ⟨C, i5, h5, hC, rfl, c5, g5⟩
 have hC : C.size ≤ 40 := hC
 have C5 := Lib.hid c5
 have G5 := Lib.hid (G4.out.trans g5)
 clear c5 g5
 go_wp2_with fail
 refine (l01PickInt_at (fun x => -1 ≤ x ∧ x ≤ 1000000001) _ _ _ _ _ _ _ _ w5.heap.size 5 5 _ (C5.out.new _) (by omega) (by omega) (by simp) (by have := C5.out.lt; omega) (new_ints w5 [0, 1, 6, 1000000000, -1] 3 (by decide))).mono ?_
 rintro e w6 ⟨t, i6, h6, ht, rfl, c6, g6⟩
 have G6 := Lib.hid (G5.out.trans (grown_two (World.grownBy_alloc _ _ _) g6))
 clear c6 g6
 go_wp2_with fail
 exact bodyPost_ret (res_tab4 rfl _ _) rfl ⟨s, R, C, t, rfl, hs, hR, hC, below_new g0 G6.out⟩

set_option maxHeartbeats 2000000 in
set_option maxRecDepth 100000 in
theorem drawTableMay_at (a : Option Addr) (len cap : Nat) (zs : List Int) (w : World) (hr : Bytes w w.heap.size a len zs) :
   Calls Tryz.prog 29 #[.slice a len cap] w (TabTwoOf w) := by
 have HR := Lib.hid hr
 clear hr
 go_enter Tryz.func29, Tryz.ntmps29
 go_wp2_with fail
 refine (l01New_at a len cap zs _ HR.out).mono ?_
 rintro e w1 ⟨rfl, ⟨h, c1⟩, g0⟩
 have C1 := Lib.hid c1
 have hpl := c1.lt
 clear c1
 go_wp2_with fail
 refine (l07Table_at _ _ _ _ _ _ _ _ _ C1.out).mono ?_
 rintro e w3 ⟨s, i3, h3, hs, rfl, c3, g3⟩
 have hs : s.size ≤ 140000 := hs
 have C3 := Lib.hid c3
 have G3 := Lib.hid g3
 clear c3 g3
 go_wp2_with fail
 refine (l04Row_at _ _ _ _ _ _ _ _ _ C3.out).mono ?_
 rintro e w4 ⟨R, i4, h4, hR, rfl, c4, g4⟩
 have hR : R.size ≤ 40 := hR
 have C4 := Lib.hid c4
 have G4 := Lib.hid (G3.out.trans g4)
 clear c4 g4
 go_wp2_with fail
 refine (l04Col_at _ _ _ _ _ _ _ _ _ C4.out).mono ?_
 rintro e w5 ⟨C, i5, h5, hC, rfl, c5, g5⟩
 have hC : C.size ≤ 40 := hC
 have C5 := Lib.hid c5
 have G5 := Lib.hid (G4.out.trans g5)
 clear c5 g5
 go_wp2_with fail
 exact bodyPost_ret (res_tab3 rfl _ _) rfl ⟨s, R, C, rfl, hs, hR, hC, below_new g0 G5.out⟩

set_option maxHeartbeats 2000000 in
set_option maxRecDepth 100000 in
theorem drawTableScan_at (a : Option Addr) (len cap : Nat) (zs : List Int) (w : World) (hr : Bytes w w.heap.size a len zs) :
   Calls Tryz.prog 33 #[.slice a len cap] w (TabTwoOf w) := by
 have HR := Lib.hid hr
 clear hr
 go_enter Tryz.func33, Tryz.ntmps33
 go_wp2_with fail
 refine (l01New_at a len cap zs _ HR.out).mono ?_
 rintro e w1 ⟨rfl, ⟨h, c1⟩, g0⟩
 have C1 := Lib.hid c1
 have hpl := c1.lt
 clear c1
 go_wp2_with fail
 refine (l07Table_at _ _ _ _ _ _ _ _ _ C1.out).mono ?_
 rintro e w3 ⟨s, i3, h3, hs, rfl, c3, g3⟩
 have hs : s.size ≤ 140000 := hs
 have C3 := Lib.hid c3
 have G3 := Lib.hid g3
 clear c3 g3
 go_wp2_with fail
 refine (l01Pick_at (fun x => x.size ≤ 40) _ _ _ _ _ _ _ _ w3.heap.size 5 5 _ (C3.out.new _) (by omega) (by omega) (by simp) (by have := C3.out.lt; omega) (new_strs w3 loTexts 9 (by decide))).mono ?_
 rintro e w4 ⟨R, i4, h4, hR, rfl, c4, g4⟩
 have hR : R.size ≤ 40 := hR
 have C4 := Lib.hid c4
 have G4 := Lib.hid (G3.out.trans (grown_two (World.grownBy_alloc _ _ _) g4))
 clear c4 g4
 go_wp2_with fail
 refine (l01Pick_at (fun x => x.size ≤ 40) _ _ _ _ _ _ _ _ w4.heap.size 5 5 _ (C4.out.new _) (by omega) (by omega) (by simp) (by have := C4.out.lt; omega) (new_strs w4 hiTexts 9 (by decide))).mono ?_
 rintro e w5 ⟨C, i5, h5, hC, rfl, c5, g5⟩
 have hC : C.size ≤ 40 := hC
 have C5 := Lib.hid c5
 have G5 := Lib.hid (G4.out.trans (grown_two (World.grownBy_alloc _ _ _) g5))
 clear c5 g5
 go_wp2_with fail
 exact bodyPost_ret (res_tab3 rfl _ _) rfl ⟨s, R, C, rfl, hs, hR, hC, below_new g0 G5.out⟩
end Go.Proofs.YtkomnnijnggbpaaGreatDoor
