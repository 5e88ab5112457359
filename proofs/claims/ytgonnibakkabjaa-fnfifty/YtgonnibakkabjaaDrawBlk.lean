/- The model's draws of blocks, and of what is sought in them. -/
import Derived.Test.YtgonnibakkabjaaDrawCells
import Derived.Test.YtgonnibakkabjaaDrawCell
import Derived.Test.YtgonnibakkabjaaBent
import Derived.Test.YtgonnibakkabjaaPutBlockS
import Derived.Test.YtgonnibakkabjaaGotPure
namespace Go.Proofs.Ytgonnibakkabjaa
open Go.RowKit
set_option linter.unusedVariables false

theorem entries_len (e : Nat) : ∀ (xs : List Cel) (i : Nat) (last : List UInt8), (∀ x ∈ xs, cellOk x = true) → (entries e i last xs).length ≤ 71 * xs.length
  | [], _, _, _ => by simp [entries]
  | x :: r, i, last, h => by
    have h1 := entry_len (e := e) (i := i) (last := last) (h x (by simp))
    have h2 := entries_len e r (i + 1) (celKey x) (fun y hy => h y (by simp [hy]))
    rw [entries, List.length_append, List.length_cons]
    omega
theorem put_len (xs : List Cel) (every : Int) : (putBlock xs every).length ≤ 73 * xs.length + 2 := by
  by_cases h : putBlock xs every = []
  · rw [h]; simp
  · obtain ⟨e, _, _, _, _, hok, hb⟩ := block_ok h
    obtain ⟨s1, s2⟩ := starts_len e xs 0 0 []
    have h3 := entries_len e xs 0 [] (all_ok hok)
    have hL : (block xs e).length = (entries e 0 [] xs).length + (startsB e 0 0 [] xs).length + 2 := by
      have : block xs e = (entries e 0 [] xs ++ startsB e 0 0 [] xs) ++ fixB ((startsB e 0 0 [] xs).length / 2) 2 := by unfold block; simp
      rw [this, List.length_append, List.length_append, fix_length]
    rw [hb, hL]
    omega

set_option maxHeartbeats 1000000 in
theorem l05Every_at (T p : Nat) (a : Option Addr) (len cap : Nat) (zs : List Int) (i : Nat) (h : Int) (w : World) (cu : CurAt w T p a len cap zs i h) :
    Calls Try.prog 42 #[.pointer (some ⟨p, 0, none⟩)] w (SomeInt (fun x => 0 ≤ x ∧ x ≤ 17) T p a len cap zs w) := by
  have HC := Lib.hid cu
  clear cu
  go_enter Try.func42, Try.ntmps42
  go_wp2_with fail
  refine (l01PickInt_at (fun x => 0 ≤ x ∧ x ≤ 17) T p a len cap zs i h w.heap.size 6 6 _ (HC.out.new _) (by omega) (by omega) (by simp) (by have := HC.out.lt; omega) (new_ints w [1, 2, 3, 16, 0, 17] 3 (by decide))).mono ?_
  rintro e w3 ⟨x, i3, h3, hx, rfl, c3, g3⟩
  have C3 := Lib.hid c3
  clear c3
  go_wp2
  go_ret
  exact ⟨x, i3, h3, hx, rfl, C3.out, grown_two (World.grownBy_alloc _ _ _) g3⟩

set_option maxHeartbeats 1000000 in
theorem l05Block_at (T p : Nat) (a : Option Addr) (len cap : Nat) (zs : List Int) (i : Nat) (h : Int) (every : Int) (w : World) (cu : CurAt w T p a len cap zs i h) :
    Calls Try.prog 52 #[.pointer (some ⟨p, 0, none⟩), .int .i64 every] w (SomeStr (fun x => x.size ≤ 600) T p a len cap zs w) := by
  have HC := Lib.hid cu
  have hpl := cu.lt
  clear cu
  go_enter Try.func52, Try.ntmps52
  go_wp2_with fail
  refine (l04Cells_at 7 (by omega) T p a len cap zs i h _ HC.out).mono ?_
  rintro e w2 ⟨g, n, c, i2, h2, ys, rfl, hn, d2⟩
  have D2 := Lib.hid d2
  have HF := Lib.hid (show Fit ys from fun y hy => small_fit (d2.small y hy))
  have hlen := d2.len
  have hpu := put_len ys every
  rw [hlen] at hpu
  clear d2 hlen
  go_wp2_with fail
  refine (specPutBlock _ n c ys every (by omega) HF.out _ D2.out.own.row).mono ?_
  intro e w5 hT
  obtain ⟨S, hS, hSl, rfl, hb⟩ := hT.text
  have hS10 : S.size ≤ 513 := by rw [hSl]; omega
  have D5 := Lib.hid (D2.out.below hb)
  clear hb hT hS hSl hpu
  go_wp2_with fail
  refine (l01Bent_at _ _ _ _ _ _ _ _ S _ D5.out.cur (by omega)).mono ?_
  rintro e w6 ⟨r, i6, h6, hr, rfl, c6, g6⟩
  have hr : r.size ≤ S.size + 2 := hr
  have C6 := Lib.hid c6
  have D6 := Lib.hid (D5.out.draw hpl g6 c6)
  clear c6 g6
  go_wp2_with fail
  go_ret
  exact ⟨r, i6, h6, by show r.size ≤ 600; omega, rfl, C6.out, D6.out.grow⟩

/-- A block, bent sometimes, and how often it starts anew. -/
def BlkOf (w : World) (e : Ending) (w' : World) : Prop := ∃ (s : ByteArray) (every : Int), e = .returned (.tuple #[.string s, .int .i64 every]) ∧ s.size ≤ 600 ∧ Below w.heap.size w w'
def blkTexts : List ByteArray := [⟨#[]⟩, ⟨#[0]⟩, ⟨#[0, 0]⟩, ⟨#[1, 0]⟩, ⟨#[0, 0, 0, 0, 1, 0]⟩]

set_option maxHeartbeats 2000000 in
set_option maxRecDepth 100000 in
theorem drawGetBlock_at (a : Option Addr) (len cap : Nat) (zs : List Int) (w : World) (hr : Bytes w w.heap.size a len zs) :
    Calls Try.prog 19 #[.slice a len cap] w (BlkOf w) := by
  have HR := Lib.hid hr
  clear hr
  go_enter Try.func19, Try.ntmps19
  go_wp2_with fail
  refine (l01New_at a len cap zs _ HR.out).mono ?_
  rintro e w1 ⟨rfl, ⟨h, c1⟩, g0⟩
  have C1 := Lib.hid c1
  have hpl := c1.lt
  clear c1
  go_wp2_with fail
  refine (l05Every_at _ _ _ _ _ _ _ _ _ C1.out).mono ?_
  rintro e w2 ⟨ev, i2, h2, hx, rfl, c2, g2⟩
  have C2 := Lib.hid c2
  have G2 := Lib.hid g2
  clear c2 g2
  go_wp2_with fail
  refine (l05Block_at _ _ _ _ _ _ _ _ ev _ C2.out).mono ?_
  rintro e w3 ⟨s, i3, h3, hs, rfl, c3, g3⟩
  have hs : s.size ≤ 600 := hs
  have C3 := Lib.hid c3
  have G3 := Lib.hid (G2.out.trans g3)
  clear c3 g3
  go_wp2_with fail
  refine (l01Once_at _ _ _ _ _ _ _ _ 6 _ C3.out (by omega) (by omega)).mono ?_
  rintro e w4 ⟨b4, i4, h4, rfl, c4, g4⟩
  have C4 := Lib.hid c4
  have G4 := Lib.hid (G3.out.trans g4)
  clear c4 g4 hx
  have REST : ∀ (ev : Int) (i4 : Nat) (h4 : Int) (w4 : World), True := fun _ _ _ _ => trivial
  clear REST
  cases b4
  · go_wp2_with fail
    refine (l01Once_at _ _ _ _ _ _ _ _ 10 _ C4.out (by omega) (by omega)).mono ?_
    rintro e w5 ⟨b5, i5, h5, rfl, c5, g5⟩
    have C5 := Lib.hid c5
    have G5 := Lib.hid (G4.out.trans g5)
    clear c5 g5
    cases b5
    · go_wp2
      go_ret2
      exact ⟨s, ev, rfl, hs, below_new g0 G5.out⟩
    · go_wp2_with fail
      refine (l01Pick_at (fun x => x.size ≤ 600) _ _ _ _ _ _ _ _ w5.heap.size 5 5 _ (C5.out.new _) (by omega) (by omega) (by simp) (by have := C5.out.lt; omega) (new_strs w5 blkTexts 9 (by decide))).mono ?_
      rintro e w6 ⟨x, i6, h6, hx6, rfl, c6, g6⟩
      have hx6 : x.size ≤ 600 := hx6
      have G6 := Lib.hid (G5.out.trans (grown_two (World.grownBy_alloc _ _ _) g6))
      clear c6 g6
      go_wp2
      go_ret2
      exact ⟨x, ev, rfl, hx6, below_new g0 G6.out⟩
  · go_wp2_with fail
    refine (l05Every_at _ _ _ _ _ _ _ _ _ C4.out).mono ?_
    rintro e w7 ⟨ev7, i7, h7, hx, rfl, c7, g7⟩
    have C7 := Lib.hid c7
    have G7 := Lib.hid (G4.out.trans g7)
    clear c7 g7 hx
    go_wp2_with fail
    refine (l01Once_at _ _ _ _ _ _ _ _ 10 _ C7.out (by omega) (by omega)).mono ?_
    rintro e w5 ⟨b5, i5, h5, rfl, c5, g5⟩
    have C5 := Lib.hid c5
    have G5 := Lib.hid (G7.out.trans g5)
    clear c5 g5
    cases b5
    · go_wp2
      go_ret2
      exact ⟨s, ev7, rfl, hs, below_new g0 G5.out⟩
    · go_wp2_with fail
      refine (l01Pick_at (fun x => x.size ≤ 600) _ _ _ _ _ _ _ _ w5.heap.size 5 5 _ (C5.out.new _) (by omega) (by omega) (by simp) (by have := C5.out.lt; omega) (new_strs w5 blkTexts 9 (by decide))).mono ?_
      rintro e w6 ⟨x, i6, h6, hx6, rfl, c6, g6⟩
      have hx6 : x.size ≤ 600 := hx6
      have G6 := Lib.hid (G5.out.trans (grown_two (World.grownBy_alloc _ _ _) g6))
      clear c6 g6
      go_wp2
      go_ret2
      exact ⟨x, ev7, rfl, hx6, below_new g0 G6.out⟩

/-- A block, and what is sought in it. -/
def SeekOf (w : World) (e : Ending) (w' : World) : Prop := ∃ (s : ByteArray) (every : Int) (R C : ByteArray) (t : Int), e = .returned (.tuple #[.string s, .int .i64 every, .string R, .string C, .int .i64 t]) ∧ s.size ≤ 600 ∧ R.size ≤ 40 ∧ C.size ≤ 40 ∧ Below w.heap.size w w'
theorem res_tmp5 {P : Program} {fn : Func} {p q r s t : Tmp} (h : fn.results = #[.tmp p, .tmp q, .tmp r, .tmp s, .tmp t]) (tmps : Array Value) (w : World) : (results fn tmps).run P w = .ok (.tuple #[tmps.getD p undef, tmps.getD q undef, tmps.getD r undef, tmps.getD s undef, tmps.getD t undef]) w := by
  simp [results, h]

set_option maxHeartbeats 2000000 in
set_option maxRecDepth 100000 in
theorem drawSeek_at (a : Option Addr) (len cap : Nat) (zs : List Int) (w : World) (hr : Bytes w w.heap.size a len zs) :
    Calls Try.prog 22 #[.slice a len cap] w (SeekOf w) := by
  have HR := Lib.hid hr
  clear hr
  go_enter Try.func22, Try.ntmps22
  go_wp2_with fail
  refine (l01New_at a len cap zs _ HR.out).mono ?_
  rintro e w1 ⟨rfl, ⟨h, c1⟩, g0⟩
  have C1 := Lib.hid c1
  have hpl := c1.lt
  clear c1
  go_wp2_with fail
  refine (l05Every_at _ _ _ _ _ _ _ _ _ C1.out).mono ?_
  rintro e w2 ⟨ev, i2, h2, hx, rfl, c2, g2⟩
  have C2 := Lib.hid c2
  have G2 := Lib.hid g2
  clear c2 g2
  go_wp2_with fail
  refine (l05Block_at _ _ _ _ _ _ _ _ ev _ C2.out).mono ?_
  rintro e w3 ⟨s, i3, h3, hs, rfl, c3, g3⟩
  have hs : s.size ≤ 600 := hs
  have C3 := Lib.hid c3
  have G3 := Lib.hid (G2.out.trans g3)
  clear c3 g3
  go_wp2_with fail
  refine (l04Row_at _ _ _ _ _ _ _ _ _ C3.out).mono ?_
  rintro e w4 ⟨R, i4, h4, hR, rfl, c4, g4⟩
  have hR : R.size ≤ 40 := hR
  have C4 := Lib.hid c4
  have G4 := Lib.hid (G3.out.trans g4)
  clear c4 g4
  go_wp2_with fail
  refine (l04Col_at _ _ _ _ _ _ _ _ _ C4.out).mono ?_
  rintro e w5 ⟨C, i5, h5, hC, rfl, c5, g5⟩
  have hC : C.size ≤ 40 := hC
  have C5 := Lib.hid c5
  have G5 := Lib.hid (G4.out.trans g5)
  clear c5 g5
  go_wp2_with fail
  refine (l01PickInt_at (fun x => -1 ≤ x ∧ x ≤ 1000000001) _ _ _ _ _ _ _ _ w5.heap.size 5 5 _ (C5.out.new _) (by omega) (by omega) (by simp) (by have := C5.out.lt; omega) (new_ints w5 [0, 1, 6, 1000000000, -1] 3 (by decide))).mono ?_
  rintro e w6 ⟨t, i6, h6, ht, rfl, c6, g6⟩
  have G6 := Lib.hid (G5.out.trans (grown_two (World.grownBy_alloc _ _ _) g6))
  clear c6 g6
  go_wp2_with fail
  exact bodyPost_ret (res_tmp5 rfl _ _) rfl ⟨s, ev, R, C, t, rfl, hs, hR, hC, below_new g0 G6.out⟩
end Go.Proofs.Ytgonnibakkabjaa
