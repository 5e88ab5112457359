/- Contracts of the model's draws: a byte, and a number below another one. -/
import Derived.Test.YtkomnnijnggbpaaGreatDoorProg
import Derived.Test.YtkomnnijnggbpaaGreatDoorZ1
import Derived.Test.YtkomnnijnggbpaaGreatDoorZ0
import Derived.Deep.RegionHeld3
namespace Go.Proofs.YtkomnnijnggbpaaGreatDoor
open Go.RowKit
set_option linter.unusedVariables false


theorem gByte_in {len : Nat} {zs : List Int} {i : Nat} {h : Int} (hi : i < len) :
   bits .and .i64 (wrap64 (mix (lcg h) + wrap64 (zs[i]?.getD 0))) 255 = gByte len zs i h := by
 unfold gByte
 rw [if_pos hi, and255, and255, List.getD_eq_getElem?_getD]
 unfold wrap64
 omega

set_option maxHeartbeats 400000 in
theorem l01Byte_at (T p : Nat) (a : Option Addr) (len cap : Nat) (zs : List Int) (i : Nat) (h : Int) (w : World) (c : CurAt w T p a len cap zs i h) :
   Calls Tryz.prog 88 #[.pointer (some ⟨p, 0, none⟩)] w fun e w' => e = .returned (.int .i64 (gByte len zs i h)) ∧ CurAt w' T p a len cap zs (gNext len i) (lcg h) ∧ w.grownBy w' (some p) := by
 obtain ⟨c0, c1, c2, f1, f2⟩ := c.cells
 have hle := c.le
 have hml := c.bytes.1
 unfold maxLen at hml
 by_cases hi : i < len
 · obtain ⟨b, off, rfl, hb, hne, hc, hr1, hr2⟩ := c.bytes.2 i hi
   have hc2 : ∀ v, (w.setCell ⟨p, 2, none⟩ v).cell? ⟨b, off + i, none⟩ = some (.int .u8 (zs.getD i 0)) := fun v => (World.cell?_of_block (w := w) (Below.heap_setCell _ _ _ _ hne)).trans hc
   have i1 : (i : Int) < (len : Int) := by omega
   have HC := Lib.hid c
   clear c
   go_enter Tryz.func88, Tryz.ntmps88
   go_wp2
   go_quiet (fail)
   go_wp2
   go_quiet (fail)
   go_wp2
   go_quiet (fail)
   go_wp2
   go_ret
   refine ⟨ret_int (gByte_in hi), ?_, ?_⟩
   · have e : gNext len i = i + 1 := by unfold gNext; rw [if_pos hi]
     rw [e]
     exact ((HC.out.seth (lcg h)).drewN _).seti hi _ (by go_num)
   · exact ((grown_set _ _ _ _).trans (grown_drewN _ _ _)).trans (grown_set _ _ _ _)
 · have HC := Lib.hid c
   clear c
   go_enter Tryz.func88, Tryz.ntmps88
   go_wp2
   go_quiet (fail)
   go_wp2
   go_quiet (fail)
   go_wp2
   go_ret
   refine ⟨ret_int (by unfold gByte mix lcg; rw [if_neg hi]), ?_, ((grown_set _ _ _ _).trans (grown_drewN _ _ _)).trans (grown_drewN _ _ _)⟩
   have e : gNext len i = i := by unfold gNext; rw [if_neg hi]
   rw [e]
   exact ((HC.out.seth _).drewN _).drewN _

def gBelow (len : Nat) (zs : List Int) (i : Nat) (h n : Int) : Int := gByte len zs i h % n

set_option maxHeartbeats 400000 in
theorem l01Below_small (T p : Nat) (a : Option Addr) (len cap : Nat) (zs : List Int) (i : Nat) (h n : Int) (w : World) (c : CurAt w T p a len cap zs i h) (h1 : 1 ≤ n) (h2 : n ≤ 256) :
   Calls Tryz.prog 47 #[.pointer (some ⟨p, 0, none⟩), .int .i64 n] w fun e w' => e = .returned (.int .i64 (gBelow len zs i h n)) ∧ CurAt w' T p a len cap zs (gNext len i) (lcg h) ∧ w.grownBy w' (some p) := by
 have hb := gByte_bd len zs i h
 have hn : (n == 0) = false := by simp; omega
 have HC := Lib.hid c
 clear c
 go_enter Tryz.func47, Tryz.ntmps47
 go_wp2_with fail
 refine (l01Byte_at _ _ _ _ _ _ _ _ _ HC.out).mono ?_
 rintro e w1 ⟨rfl, c1, g1⟩
 have C1 := Lib.hid c1
 clear c1
 go_wp2
 go_ret
 exact ⟨ret_int (by unfold gBelow; rfl), C1.out, g1⟩

def SomeBelow (n : Int) (T p : Nat) (a : Option Addr) (len cap : Nat) (zs : List Int) (w : World) (e : Ending) (w' : World) : Prop :=
 ∃ x i h, 0 ≤ x ∧ x < n ∧ e = .returned (.int .i64 x) ∧ CurAt w' T p a len cap zs i h ∧ w.grownBy w' (some p)

set_option maxHeartbeats 1000000 in
theorem l01Below_any (T p : Nat) (a : Option Addr) (len cap : Nat) (zs : List Int) (i : Nat) (h n : Int) (w : World) (c : CurAt w T p a len cap zs i h) (h1 : 1 ≤ n) (h2 : n ≤ 9223372036854775807) :
   Calls Tryz.prog 47 #[.pointer (some ⟨p, 0, none⟩), .int .i64 n] w (SomeBelow n T p a len cap zs w) := by
 by_cases hs : n ≤ 256
 · refine (l01Below_small T p a len cap zs i h n w c h1 hs).mono ?_
   rintro e w' ⟨rfl, c1, g1⟩
   have hb := gByte_bd len zs i h
   exact ⟨_, _, _, Int.emod_nonneg _ (by omega), Int.emod_lt_of_pos _ (by omega), rfl, c1, g1⟩
 · have hn : (n == 0) = false := by simp; omega
   have HC := Lib.hid c
   clear c
   go_enter Tryz.func47, Tryz.ntmps47
   go_wp2_with fail
   refine (l01Byte_at _ _ _ _ _ _ _ _ _ HC.out).mono ?_
   rintro e w1 ⟨rfl, c1, g1⟩
   have b1 := gByte_bd len zs i h
   generalize gByte len zs i h = x1 at b1 ⊢
   have C1 := Lib.hid c1
   clear c1
   go_wp2_with fail
   refine (l01Byte_at _ _ _ _ _ _ _ _ _ C1.out).mono ?_
   rintro e w2 ⟨rfl, c2, g2⟩
   have b2 := gByte_bd len zs (gNext len i) (lcg h)
   generalize gByte len zs (gNext len i) (lcg h) = x2 at b2 ⊢
   have C2 := Lib.hid c2
   clear c2
   go_wp2_with fail
   refine (l01Byte_at _ _ _ _ _ _ _ _ _ C2.out).mono ?_
   rintro e w3 ⟨rfl, c3, g3⟩
   have b3 := gByte_bd len zs (gNext len (gNext len i)) (lcg (lcg h))
   generalize gByte len zs (gNext len (gNext len i)) (lcg (lcg h)) = x3 at b3 ⊢
   have C3 := Lib.hid c3
   clear c3
   go_wp2_with fail
   refine (l01Byte_at _ _ _ _ _ _ _ _ _ C3.out).mono ?_
   rintro e w4 ⟨rfl, c4, g4⟩
   have b4 := gByte_bd len zs (gNext len (gNext len (gNext len i))) (lcg (lcg (lcg h)))
   generalize gByte len zs (gNext len (gNext len (gNext len i))) (lcg (lcg (lcg h))) = x4 at b4 ⊢
   have C4 := Lib.hid c4
   clear c4
   go_wp2
   go_ret
   exact ⟨_, _, _, Int.emod_nonneg _ (by omega), Int.emod_lt_of_pos _ (by omega), rfl, C4.out, ((g1.trans g2).trans g3).trans g4⟩

set_option maxHeartbeats 1000000 in
set_option maxRecDepth 100000 in
theorem l01New_at (a : Option Addr) (len cap : Nat) (zs : List Int) (w : World) (hr : Bytes w w.heap.size a len zs) :
   Calls Tryz.prog 44 #[.slice a len cap] w fun e w' => e = .returned (.pointer (some ⟨w.heap.size, 0, none⟩)) ∧ (∃ h, CurAt w' 102 w.heap.size a len cap zs 0 h) ∧ w.grownBy w' none := by
 have hml := hr.1
 unfold maxLen at hml
 have HR := Lib.hid hr
 clear hr
 go_enter Tryz.func44, Tryz.ntmps44
 go_wp2
 go_loop [3, 4] (fun hh i => ∃ (k : Nat) (h : Int), k ≤ len ∧ i = .int .i64 k ∧ hh = .int .i64 h) (fun _ i => len - (intOf i).toNat)
 case atStart => exact ⟨0, _, Nat.zero_le _, rfl, rfl⟩
 case round =>
   obtain ⟨k, h, hk, rfl, rfl⟩ := hrel
   by_cases hlt : k < len
   · by_cases h4 : (k : Int) < 4000
     · obtain ⟨b, off, rfl, hb, hne, hc, hr1, hr2⟩ := HR.out.2 k hlt
       have i1 : (k : Int) < (len : Int) := by omega
       go_wp2
       go_round
       case rel => exact ⟨k + 1, _, by omega, by go_num, rfl⟩
       case measure => simp [intOf]; omega
     · go_wp2
       go_ret
       exact ⟨rfl, ⟨h, cur_new HR.out⟩, World.grownBy_alloc _ _ _⟩
   · go_wp2
     go_ret
     exact ⟨rfl, ⟨h, cur_new HR.out⟩, World.grownBy_alloc _ _ _⟩
theorem new_cell (w : World) (cs : Array Value) (T j : Nat) : (w.alloc (.cells cs T)).cell? ⟨w.heap.size, j, none⟩ = cs[j]? := by
 have : (w.alloc (.cells cs T)).heap[w.heap.size]? = some (.cells cs T (0, 0)) := by
   show (w.heap.push _)[w.heap.size]? = _
   rw [Array.getElem?_push, if_pos rfl]
 unfold World.cell?
 rw [this]
 rfl

theorem new_ints {P : Int → Prop} (w : World) (ns : List Int) (T : Nat) (h : ∀ x ∈ ns, P x) : ∀ j, j < ns.length → ∃ x, (w.alloc (.cells (ns.map (Value.int .i64)).toArray T)).cell? ⟨w.heap.size, j, none⟩ = some (.int .i64 x) ∧ P x := by
 intro j hj
 refine ⟨ns[j], ?_, h _ (List.getElem_mem _)⟩
 rw [new_cell]
 simp [hj]
theorem new_strs {P : ByteArray → Prop} (w : World) (ns : List ByteArray) (T : Nat) (h : ∀ x ∈ ns, P x) : ∀ j, j < ns.length → ∃ x, (w.alloc (.cells (ns.map Value.string).toArray T)).cell? ⟨w.heap.size, j, none⟩ = some (.string x) ∧ P x := by
 intro j hj
 refine ⟨ns[j], ?_, h _ (List.getElem_mem _)⟩
 rw [new_cell]
 simp [hj]

def SomeInt (P : Int → Prop) (T p : Nat) (a : Option Addr) (len cap : Nat) (zs : List Int) (w : World) (e : Ending) (w' : World) : Prop :=
 ∃ (x : Int) (i : Nat) (h : Int), P x ∧ e = .returned (.int .i64 x) ∧ CurAt w' T p a len cap zs i h ∧ w.grownBy w' (some p)
def SomeStr (P : ByteArray → Prop) (T p : Nat) (a : Option Addr) (len cap : Nat) (zs : List Int) (w : World) (e : Ending) (w' : World) : Prop :=
 ∃ (x : ByteArray) (i : Nat) (h : Int), P x ∧ e = .returned (.string x) ∧ CurAt w' T p a len cap zs i h ∧ w.grownBy w' (some p)
def SomeBool (T p : Nat) (a : Option Addr) (len cap : Nat) (zs : List Int) (w : World) (e : Ending) (w' : World) : Prop :=
 ∃ (b : Bool) (i : Nat) (h : Int), e = .returned (.bool b) ∧ CurAt w' T p a len cap zs i h ∧ w.grownBy w' (some p)
set_option maxHeartbeats 400000 in
theorem l01Pick_at (P : ByteArray → Prop) (T p : Nat) (a : Option Addr) (len cap : Nat) (zs : List Int) (i : Nat) (h : Int) (g m c : Nat) (w : World) (cu : CurAt w T p a len cap zs i h)
   (h1 : 1 ≤ m) (h2 : m ≤ 256) (hg : g < w.heap.size) (hp : g ≠ p) (hc : ∀ j, j < m → ∃ x, w.cell? ⟨g, j, none⟩ = some (.string x) ∧ P x) :
   Calls Tryz.prog 64 #[.pointer (some ⟨p, 0, none⟩), .slice (some ⟨g, 0, none⟩) m c] w (SomeStr P T p a len cap zs w) := by
 have HC := Lib.hid cu
 have HH := Lib.hid hc
 clear cu hc
 go_enter Tryz.func64, Tryz.ntmps64
 go_wp2_with fail
 refine (l01Below_any _ _ _ _ _ _ _ _ _ _ HC.out (by omega) (by omega)).mono ?_
 rintro e w1 ⟨y, i1, hh1, hy0, hy1, rfl, c1, g1⟩
 obtain ⟨y, rfl⟩ := Int.eq_ofNat_of_zero_le hy0
 have C1 := Lib.hid c1
 clear c1
 obtain ⟨x, hx, hP⟩ := HH.out y (by omega)
 have hx1 : w1.cell? ⟨g, y, none⟩ = some (.string x) := (World.cell?_of_block (w := w) (g1.block g hg (by simpa using hp))).trans hx
 clear hx HH
 have HPX := Lib.hid hP
 clear hP
 go_wp2
 go_ret
 exact ⟨x, i1, hh1, HPX.out, rfl, C1.out, g1⟩
set_option maxHeartbeats 400000 in
theorem l01Once_at (T p : Nat) (a : Option Addr) (len cap : Nat) (zs : List Int) (i : Nat) (h n : Int) (w : World) (c : CurAt w T p a len cap zs i h) (h1 : 1 ≤ n) (h2 : n ≤ 256) :
   Calls Tryz.prog 46 #[.pointer (some ⟨p, 0, none⟩), .int .i64 n] w (SomeBool T p a len cap zs w) := by
 have HC := Lib.hid c
 clear c
 go_enter Tryz.func46, Tryz.ntmps46
 go_wp2_with fail
 refine (l01Below_small _ _ _ _ _ _ _ _ _ _ HC.out h1 h2).mono ?_
 rintro e w1 ⟨rfl, c1, g1⟩
 have C1 := Lib.hid c1
 clear c1
 go_wp2
 go_ret
 exact ⟨_, _, _, rfl, C1.out, g1⟩
set_option maxHeartbeats 400000 in
theorem l01PickInt_at (P : Int → Prop) (T p : Nat) (a : Option Addr) (len cap : Nat) (zs : List Int) (i : Nat) (h : Int) (g m c : Nat) (w : World) (cu : CurAt w T p a len cap zs i h)
   (h1 : 1 ≤ m) (h2 : m ≤ 256) (hg : g < w.heap.size) (hp : g ≠ p) (hc : ∀ j, j < m → ∃ x, w.cell? ⟨g, j, none⟩ = some (.int .i64 x) ∧ P x) :
   Calls Tryz.prog 72 #[.pointer (some ⟨p, 0, none⟩), .slice (some ⟨g, 0, none⟩) m c] w (SomeInt P T p a len cap zs w) := by
 have HC := Lib.hid cu
 have HH := Lib.hid hc
 clear cu hc
 go_enter Tryz.func72, Tryz.ntmps72
 go_wp2_with fail
 refine (l01Below_any _ _ _ _ _ _ _ _ _ _ HC.out (by omega) (by omega)).mono ?_
 rintro e w1 ⟨y, i1, hh1, hy0, hy1, rfl, c1, g1⟩
 obtain ⟨y, rfl⟩ := Int.eq_ofNat_of_zero_le hy0
 have C1 := Lib.hid c1
 clear c1
 obtain ⟨x, hx, hP⟩ := HH.out y (by omega)
 have hx1 : w1.cell? ⟨g, y, none⟩ = some (.int .i64 x) := (World.cell?_of_block (w := w) (g1.block g hg (by simpa using hp))).trans hx
 clear hx HH
 have HPX := Lib.hid hP
 clear hP
 go_wp2
 go_ret
 exact ⟨x, i1, hh1, HPX.out, rfl, C1.out, g1⟩
end Go.Proofs.YtkomnnijnggbpaaGreatDoor
/- The model's draws together. -/
namespace Go.Proofs.YtkomnnijnggbpaaGreatDoor
end Go.Proofs.YtkomnnijnggbpaaGreatDoor
/- The model's draw of a row's name; what a cursor keeps. -/
namespace Go.Proofs.YtkomnnijnggbpaaGreatDoor
open Go.RowKit
set_option linter.unusedVariables false
theorem grown_two {w w1 w2 : World} {p : Nat} (h : w.grownBy w1 (some p)) (h2 : w1.grownBy w2 (some p)) : w.grownBy w2 (some p) :=
 ⟨h2.os.trans h.os, h2.tape.trans h.tape, h2.output.trans h.output, Nat.le_trans h.size h2.size, fun k hk hne => (h2.block k (by have := h.size; omega) hne).trans (h.block k hk hne)⟩
theorem grown_blk {w w' : World} {p g : Nat} {o : Obj} (hg : w.grownBy w' (some p)) (h : w.heap[g]? = some o) (hne : g ≠ p) : w'.heap[g]? = some o := (hg.block g (Array.getElem?_eq_some_iff.1 h).1 (by simpa using hne)).trans h
theorem grown_set1 {w w' : World} {p g k : Nat} (h : w.grownBy w' (some p)) (hg : w.heap.size ≤ g) (v : Value) : w.grownBy (w'.setCell ⟨g, k, none⟩ v) (some p) := by
 have h5 : Below w.heap.size w' (w'.setCell ⟨g, k, none⟩ v) := (Below.refl w.heap.size w').setCell hg v
 exact ⟨h5.os.trans h.os, h5.tape.trans h.tape, h5.output.trans h.output, Nat.le_trans h.size h5.size, fun k hk hne => (h5.block k hk).trans (h.block k hk hne)⟩
theorem grown_new1 {w w' : World} {p : Nat} (h : w.grownBy w' (some p)) (o : Obj) : w.grownBy (w'.alloc o) (some p) := grown_two h (World.grownBy_alloc w' o (some p))
theorem CurAt.rowlt {w : World} {T p : Nat} {a : Option Addr} {len cap : Nat} {zs : List Int} {i : Nat} {h : Int} (c : CurAt w T p a len cap zs i h) : ∀ x, a = some x → x.block < w.heap.size ∨ len = 0 := by
 intro x hx
 rcases Nat.eq_zero_or_pos len with h0 | hpos
 · exact .inr h0
 · obtain ⟨b, off, hb, hlt, _⟩ := c.bytes.2 0 hpos
   rw [hb] at hx
   cases hx
   exact .inl hlt
theorem CurAt.set {w w' : World} {T p : Nat} {a : Option Addr} {len cap : Nat} {zs : List Int} {i : Nat} {h : Int} (c : CurAt w' T p a len cap zs i h) {B : Nat} (hr : ∀ x, a = some x → x.block < B ∨ len = 0) (hp : p < B) {g : Nat} (hg : B ≤ g) (k : Nat) (v : Value) : CurAt (w'.setCell ⟨g, k, none⟩ v) T p a len cap zs i h :=
 c.kept (grown_set w' g k v) (by simp; omega) (fun x hx => by rcases hr x hx with h | h; exact .inl (by simp; omega); exact .inr h)
def rowTexts : List ByteArray := [⟨#[97]⟩, ⟨#[97, 112, 112, 108, 101]⟩, ⟨#[97, 112, 112, 108, 101, 115]⟩, ⟨#[98]⟩, ⟨#[114, 111, 119, 49]⟩, ⟨#[114, 111, 119, 49, 48]⟩, ⟨#[114, 111, 119, 50]⟩, ⟨#[122, 111, 111]⟩]
set_option maxHeartbeats 1000000 in
theorem l04Row_at (T p : Nat) (a : Option Addr) (len cap : Nat) (zs : List Int) (i : Nat) (h : Int) (w : World) (cu : CurAt w T p a len cap zs i h) :
   Calls Tryz.prog 70 #[.pointer (some ⟨p, 0, none⟩)] w (SomeStr (fun x => x.size ≤ 40) T p a len cap zs w) := by
 have HC := Lib.hid cu
 clear cu
 go_enter Tryz.func70, Tryz.ntmps70
 go_wp2_with fail
 refine (l01Pick_at (fun x => x.size ≤ 40) T p a len cap zs i h w.heap.size 8 8 _ (HC.out.new _) (by omega) (by omega) (by simp) (by have := HC.out.lt; omega) (new_strs w rowTexts 9 (by decide))).mono ?_
 rintro e w3 ⟨x, i3, h3, hx, rfl, c3, g3⟩
 have C3 := Lib.hid c3
 clear c3
 go_wp2
 go_ret
 exact ⟨x, i3, h3, hx, rfl, C3.out, grown_two (World.grownBy_alloc _ _ _) g3⟩
def SmallC (x : Cel) : Prop := x.row.size ≤ 40 ∧ x.col.size ≤ 40 ∧ x.value.size ≤ 40 ∧ -1 ≤ x.time ∧ x.time ≤ 1000000001
def SomeCel (T p : Nat) (a : Option Addr) (len cap : Nat) (zs : List Int) (w : World) (e : Ending) (w' : World) : Prop :=
 ∃ (x : Cel) (i : Nat) (h : Int), SmallC x ∧ e = .returned (.agg #[.string x.row, .string x.col, .int .i64 x.time, .bool x.gone, .string x.value]) ∧ CurAt w' T p a len cap zs i h ∧ w.grownBy w' (some p)
theorem grown_set5 {w w' : World} {p g : Nat} (h : w.grownBy w' (some p)) (hg : w.heap.size ≤ g) (v0 v1 v2 v3 v4 : Value) : w.grownBy (((((w'.setCell ⟨g, 0, none⟩ v0).setCell ⟨g, 1, none⟩ v1).setCell ⟨g, 2, none⟩ v2).setCell ⟨g, 3, none⟩ v3).setCell ⟨g, 4, none⟩ v4) (some p) := by
 have h5 := set5_below (Below.refl w.heap.size w') hg v0 v1 v2 v3 v4
 exact ⟨h5.os.trans h.os, h5.tape.trans h.tape, h5.output.trans h.output, Nat.le_trans h.size h5.size, fun k hk hne => (h5.block k hk).trans (h.block k hk hne)⟩
theorem CurAt.set5 {w w' : World} {T p : Nat} {a : Option Addr} {len cap : Nat} {zs : List Int} {i : Nat} {h : Int} (c : CurAt w' T p a len cap zs i h) {B : Nat} (hr : ∀ x, a = some x → x.block < B ∨ len = 0) (hp : p < B) {g : Nat} (hg : B ≤ g) (v0 v1 v2 v3 v4 : Value) :
   CurAt (((((w'.setCell ⟨g, 0, none⟩ v0).setCell ⟨g, 1, none⟩ v1).setCell ⟨g, 2, none⟩ v2).setCell ⟨g, 3, none⟩ v3).setCell ⟨g, 4, none⟩ v4) T p a len cap zs i h :=
 ((((c.set (w := w) hr hp hg 0 v0).set (w := w) hr hp hg 1 v1).set (w := w) hr hp hg 2 v2).set (w := w) hr hp hg 3 v3).set (w := w) hr hp hg 4 v4
def colTexts : List ByteArray := [⟨#[120]⟩, ⟨#[121]⟩, ⟨#[115, 105, 122, 101]⟩]

def NameC (x : ByteArray) : Prop := x.size ≤ 40 ∧ nameOk x.data.toList = true
theorem rows_named : ∀ x ∈ rowTexts, NameC x := by unfold NameC; decide
theorem cols_named : ∀ x ∈ colTexts, NameC x := by unfold NameC; decide
set_option maxHeartbeats 1000000 in
theorem l04Row_ok (T p : Nat) (a : Option Addr) (len cap : Nat) (zs : List Int) (i : Nat) (h : Int) (w : World) (cu : CurAt w T p a len cap zs i h) :
   Calls Tryz.prog 70 #[.pointer (some ⟨p, 0, none⟩)] w (SomeStr NameC T p a len cap zs w) := by
 have HC := Lib.hid cu
 clear cu
 go_enter Tryz.func70, Tryz.ntmps70
 go_wp2_with fail
 refine (l01Pick_at NameC T p a len cap zs i h w.heap.size 8 8 _ (HC.out.new _) (by omega) (by omega) (by simp) (by have := HC.out.lt; omega) (new_strs w rowTexts 9 rows_named)).mono ?_
 rintro e w3 ⟨x, i3, h3, hx, rfl, c3, g3⟩
 have C3 := Lib.hid c3
 clear c3
 go_wp2
 go_ret
 exact ⟨x, i3, h3, hx, rfl, C3.out, grown_two (World.grownBy_alloc _ _ _) g3⟩

set_option maxHeartbeats 1000000 in
theorem l04Col_ok (T p : Nat) (a : Option Addr) (len cap : Nat) (zs : List Int) (i : Nat) (h : Int) (w : World) (cu : CurAt w T p a len cap zs i h) :
   Calls Tryz.prog 71 #[.pointer (some ⟨p, 0, none⟩)] w (SomeStr NameC T p a len cap zs w) := by
 have HC := Lib.hid cu
 clear cu
 go_enter Tryz.func71, Tryz.ntmps71
 go_wp2_with fail
 refine (l01Pick_at NameC T p a len cap zs i h w.heap.size 3 3 _ (HC.out.new _) (by omega) (by omega) (by simp) (by have := HC.out.lt; omega) (new_strs w colTexts 9 cols_named)).mono ?_
 rintro e w3 ⟨x, i3, h3, hx, rfl, c3, g3⟩
 have C3 := Lib.hid c3
 clear c3
 go_wp2
 go_ret
 exact ⟨x, i3, h3, hx, rfl, C3.out, grown_two (World.grownBy_alloc _ _ _) g3⟩

theorem l04Col_at (T p : Nat) (a : Option Addr) (len cap : Nat) (zs : List Int) (i : Nat) (h : Int) (w : World) (cu : CurAt w T p a len cap zs i h) :
   Calls Tryz.prog 71 #[.pointer (some ⟨p, 0, none⟩)] w (SomeStr (fun x => x.size ≤ 40) T p a len cap zs w) :=
 (l04Col_ok T p a len cap zs i h w cu).mono fun _ _ ⟨x, i, h, hx, e, c, g⟩ => ⟨x, i, h, hx.1, e, c, g⟩

def valTexts : List ByteArray := [⟨#[]⟩, ⟨#[118]⟩, ⟨#[118, 97, 108, 117, 101]⟩, ⟨#[0, 255]⟩, ⟨#[97, 32, 108, 111, 110, 103, 32, 118, 97, 108, 117, 101, 44, 32, 97, 32, 108, 111, 110, 103, 32, 118, 97, 108, 117, 101]⟩]

def RightCel (T p : Nat) (a : Option Addr) (len cap : Nat) (zs : List Int) (w : World) (e : Ending) (w' : World) : Prop :=
 ∃ (x : Cel) (i : Nat) (h : Int), (SmallC x ∧ cellOk x = true) ∧ e = .returned (.agg #[.string x.row, .string x.col, .int .i64 x.time, .bool x.gone, .string x.value]) ∧ CurAt w' T p a len cap zs i h ∧ w.grownBy w' (some p)
theorem right_cell {R C V : ByteArray} {t : Int} {g : Bool} (hR : NameC R) (hC : NameC C) (ht : 0 ≤ t ∧ t ≤ 1000000000) (hV : V.size ≤ 30) (hg : (!g || V.data.toList.isEmpty) = true) : SmallC ⟨R, C, t, g, V⟩ ∧ cellOk ⟨R, C, t, g, V⟩ = true := by
 refine ⟨⟨hR.1, hC.1, Nat.le_trans hV (by omega), by show -1 ≤ t; omega, by show t ≤ 1000000001; omega⟩, ?_⟩
 unfold cellOk timeOk
 show (nameOk R.data.toList && nameOk C.data.toList && (decide (0 ≤ t) && decide (t ≤ 1000000000)) && decide (V.size ≤ 30) && (!g || V.data.toList.isEmpty)) = true
 rw [hR.2, hC.2, hg, decide_eq_true ht.1, decide_eq_true ht.2, decide_eq_true hV]
 rfl
set_option maxHeartbeats 2000000 in
set_option maxRecDepth 100000 in
theorem l04Make_ok (T p : Nat) (a : Option Addr) (len cap : Nat) (zs : List Int) (i : Nat) (h : Int) (w : World) (cu : CurAt w T p a len cap zs i h) :
   Calls Tryz.prog 123 #[.pointer (some ⟨p, 0, none⟩)] w (RightCel T p a len cap zs w) := by
 have hpl := cu.lt
 have HL := Lib.hid cu.rowlt
 have HC := Lib.hid (cu.new (.cells #[.string ⟨#[]⟩, .string ⟨#[]⟩, .int .i64 0, .bool false, .string ⟨#[]⟩] 41))
 have O0 := Lib.hid (alloc_at w (.cells #[.string ⟨#[]⟩, .string ⟨#[]⟩, .int .i64 0, .bool false, .string ⟨#[]⟩] 41))
 have G0 := Lib.hid (World.grownBy_alloc w (.cells #[.string ⟨#[]⟩, .string ⟨#[]⟩, .int .i64 0, .bool false, .string ⟨#[]⟩] 41) (some p))
 clear cu
 go_enter Tryz.func123, Tryz.ntmps123
 go_wp2_with fail
 refine (l04Row_ok T p a len cap zs i h _ HC.out).mono ?_
 rintro e w1 ⟨R, i1, h1, hR, rfl, c1, g1⟩
 have C1 := Lib.hid c1
 have O1 := Lib.hid (grown_blk g1 O0.out (by omega))
 have G1 := Lib.hid (grown_two G0.out g1)
 clear c1 g1
 go_wp2_with fail
 refine (l04Col_ok T p a len cap zs i1 h1 _ C1.out).mono ?_
 rintro e w2 ⟨C, i2, h2, hC, rfl, c2, g2⟩
 have C2 := Lib.hid (c2.new (.cells #[.int .i64 0, .int .i64 1, .int .i64 5, .int .i64 7, .int .i64 300, .int .i64 1000000000] 3))
 have O2 := Lib.hid ((alloc_old w2 (.cells #[.int .i64 0, .int .i64 1, .int .i64 5, .int .i64 7, .int .i64 300, .int .i64 1000000000] 3) (Array.getElem?_eq_some_iff.1 (grown_blk g2 O1.out (by omega))).1).trans (grown_blk g2 O1.out (by omega)))
 have G2 := Lib.hid (grown_new1 (grown_two G1.out g2) (.cells #[.int .i64 0, .int .i64 1, .int .i64 5, .int .i64 7, .int .i64 300, .int .i64 1000000000] 3))
 have P2 := Lib.hid c2.lt
 clear c2 g2
 go_wp2_with fail
 refine (l01PickInt_at (fun x => 0 ≤ x ∧ x ≤ 1000000000) T p a len cap zs i2 h2 w2.heap.size 6 6 _ C2.out (by omega) (by omega) (by simp) (by have := P2.out; omega) (new_ints w2 [0, 1, 5, 7, 300, 1000000000] 3 (by decide))).mono ?_
 rintro e w3 ⟨t, i3, h3, ht, rfl, c3, g3⟩
 have C3 := Lib.hid (c3.new (.cells #[.string R, .string C, .int .i64 t, .bool false, .string ⟨#[]⟩] 41))
 have O3 := Lib.hid ((alloc_old w3 (.cells #[.string R, .string C, .int .i64 t, .bool false, .string ⟨#[]⟩] 41) (Array.getElem?_eq_some_iff.1 (grown_blk g3 O2.out (by omega))).1).trans (grown_blk g3 O2.out (by omega)))
 have X3 := Lib.hid (alloc_at w3 (.cells #[.string R, .string C, .int .i64 t, .bool false, .string ⟨#[]⟩] 41))
 have G3 := Lib.hid (grown_new1 (grown_two G2.out g3) (.cells #[.string R, .string C, .int .i64 t, .bool false, .string ⟨#[]⟩] 41))
 have P3 := Lib.hid c3.lt
 have Z3 := Lib.hid (show w.heap.size < w3.heap.size from (Array.getElem?_eq_some_iff.1 (grown_blk g3 O2.out (by omega))).1)
 clear c3 g3
 go_wp2_with fail
 refine (l01Once_at T p a len cap zs i3 h3 5 _ C3.out (by omega) (by omega)).mono ?_
 rintro e w4 ⟨b, i4, h4, rfl, c4, g4⟩
 have C4 := Lib.hid c4
 have O4 := Lib.hid (grown_blk g4 O3.out (by omega))
 have X4 := Lib.hid (grown_blk g4 X3.out (by have := P3.out; omega))
 have G4 := Lib.hid (grown_two G3.out g4)
 clear c4 g4
 cases b
 · have C4v := Lib.hid (C4.out.new (.cells #[.string ⟨#[]⟩, .string ⟨#[118]⟩, .string ⟨#[118, 97, 108, 117, 101]⟩, .string ⟨#[0, 255]⟩, .string ⟨#[97, 32, 108, 111, 110, 103, 32, 118, 97, 108, 117, 101, 44, 32, 97, 32, 108, 111, 110, 103, 32, 118, 97, 108, 117, 101]⟩] 9))
   have L4 := Lib.hid (show w3.heap.size < w4.heap.size from (Array.getElem?_eq_some_iff.1 X4.out).1)
   have P4 := Lib.hid C4.out.lt
   go_wp2_with fail
   refine (l01Pick_at (fun x => x.size ≤ 30) T p a len cap zs i4 h4 w4.heap.size 5 5 _ C4v.out (by omega) (by omega) (by simp) (by have := P4.out; omega) (new_strs w4 valTexts 9 (by decide))).mono ?_
   rintro e w5 ⟨V, i5, h5, hV, rfl, c5, g5⟩
   have C5 := Lib.hid c5
   have O5 := Lib.hid (grown_blk g5 ((alloc_old w4 _ (by have := L4.out; have := Z3.out; omega)).trans O4.out) (by omega))
   have X5 := Lib.hid (grown_blk g5 ((alloc_old w4 _ L4.out).trans X4.out) (by have := P3.out; omega))
   have G5 := Lib.hid (grown_two (grown_new1 G4.out _) g5)
   clear c5 g5
   obtain ⟨x5, y0, y1, y2, y3, y4⟩ := blk5 X5.out
   obtain ⟨o5, z0, z1, z2, z3, z4⟩ := blk5 O5.out
   unfold One5 at x5 o5
   obtain ⟨a0, a1, a2, a3, a4⟩ := x5
   obtain ⟨b0, b1, b2, b3, b4⟩ := o5
   have hne : w3.heap.size ≠ w.heap.size := by have := Z3.out; omega
   have hne' : w.heap.size ≠ w3.heap.size := by have := Z3.out; omega
   go_wp2_with fail
   refine bodyPost_ret (v := .agg #[.string R, .string C, .int .i64 t, .bool false, .string V]) (results_cell_row Tryz.results123 _ _ w.heap.size _ #[.string R, .string C, .int .i64 t, .bool false, .string V] _ _ rfl (set5 ((Below.heap_setCell _ _ _ _ hne').trans O5.out) _ _ _ _ _) Tryz.underlying41 rfl (by rw [sizeCel]; rfl)) rfl ?_
   exact ⟨⟨R, C, t, false, V⟩, i5, h5, right_cell hR hC ht hV rfl, rfl, (C5.out.set (w := w) HL.out hpl (by have := Z3.out; omega) _ _).set5 (w := w) HL.out hpl (Nat.le_refl _) _ _ _ _ _, grown_set5 (grown_set1 G5.out (by have := Z3.out; omega) _) (Nat.le_refl _) _ _ _ _ _⟩
 · obtain ⟨x5, y0, y1, y2, y3, y4⟩ := blk5 X4.out
   obtain ⟨o5, z0, z1, z2, z3, z4⟩ := blk5 O4.out
   unfold One5 at x5 o5
   obtain ⟨a0, a1, a2, a3, a4⟩ := x5
   obtain ⟨b0, b1, b2, b3, b4⟩ := o5
   have hne : w3.heap.size ≠ w.heap.size := by have := Z3.out; omega
   have hne' : w.heap.size ≠ w3.heap.size := by have := Z3.out; omega
   go_wp2_with fail
   refine bodyPost_ret (v := .agg #[.string R, .string C, .int .i64 t, .bool true, .string ⟨#[]⟩]) (results_cell_row Tryz.results123 _ _ w.heap.size _ #[.string R, .string C, .int .i64 t, .bool true, .string ⟨#[]⟩] _ _ rfl (set5 ((Below.heap_setCell _ _ _ _ hne').trans O4.out) _ _ _ _ _) Tryz.underlying41 rfl (by rw [sizeCel]; rfl)) rfl ?_
   exact ⟨⟨R, C, t, true, ⟨#[]⟩⟩, i4, h4, right_cell hR hC ht (by decide) (by decide), rfl, (C4.out.set (w := w) HL.out hpl (by have := Z3.out; omega) _ _).set5 (w := w) HL.out hpl (Nat.le_refl _) _ _ _ _ _, grown_set5 (grown_set1 G4.out (by have := Z3.out; omega) _) (Nat.le_refl _) _ _ _ _ _⟩
theorem l04Make_at (T p : Nat) (a : Option Addr) (len cap : Nat) (zs : List Int) (i : Nat) (h : Int) (w : World) (cu : CurAt w T p a len cap zs i h) :
   Calls Tryz.prog 123 #[.pointer (some ⟨p, 0, none⟩)] w (SomeCel T p a len cap zs w) :=
 (l04Make_ok T p a len cap zs i h w cu).mono fun _ _ ⟨x, i, h, hx, e, c, g⟩ => ⟨x, i, h, hx.1, e, c, g⟩
def oddRows : List ByteArray := [⟨#[]⟩, ⟨#[97, 32, 98]⟩, ⟨#[97, 98, 99, 100, 101, 102, 103, 104, 105, 106, 107, 108, 109, 110, 111, 112]⟩, ⟨#[97, 98, 99, 100, 101, 102, 103, 104, 105, 106, 107, 108, 109, 110, 111, 112, 113]⟩, ⟨#[0]⟩]
def oddCols : List ByteArray := [⟨#[]⟩, ⟨#[255]⟩, ⟨#[126]⟩]

set_option maxHeartbeats 4000000 in
set_option maxRecDepth 100000 in
theorem l04Odd_at (T p : Nat) (a : Option Addr) (len cap : Nat) (zs : List Int) (i : Nat) (h : Int) (w : World) (cu : CurAt w T p a len cap zs i h) :
   Calls Tryz.prog 87 #[.pointer (some ⟨p, 0, none⟩)] w (SomeCel T p a len cap zs w) := by
 have hpl := cu.lt
 have HL := Lib.hid cu.rowlt
 have HC := Lib.hid (cu.new (.cells #[.string ⟨#[]⟩, .string ⟨#[]⟩, .int .i64 0, .bool false, .string ⟨#[]⟩] 41))
 have O0 := Lib.hid (alloc_at w (.cells #[.string ⟨#[]⟩, .string ⟨#[]⟩, .int .i64 0, .bool false, .string ⟨#[]⟩] 41))
 have G0 := Lib.hid (World.grownBy_alloc w (.cells #[.string ⟨#[]⟩, .string ⟨#[]⟩, .int .i64 0, .bool false, .string ⟨#[]⟩] 41) (some p))
 clear cu
 go_enter Tryz.func87, Tryz.ntmps87
 go_wp2_with fail
 refine (l04Make_at T p a len cap zs i h _ HC.out).mono ?_
 rintro e w1 ⟨⟨R, C, t, G, V⟩, i1, h1, ⟨hR, hC, hV, ht0, ht1⟩, rfl, c1, g1⟩
 have P1 := Lib.hid c1.lt
 have Z1 := Lib.hid (show w.heap.size < w1.heap.size from (Array.getElem?_eq_some_iff.1 (grown_blk g1 O0.out (by omega))).1)
 have C1 := Lib.hid (c1.new (.cells #[.string R, .string C, .int .i64 t, .bool G, .string V] 41))
 have O1 := Lib.hid ((alloc_old w1 (.cells #[.string R, .string C, .int .i64 t, .bool G, .string V] 41) Z1.out).trans (grown_blk g1 O0.out (by omega)))
 have X1 := Lib.hid (alloc_at w1 (.cells #[.string R, .string C, .int .i64 t, .bool G, .string V] 41))
 have G1 := Lib.hid (grown_new1 (grown_two G0.out g1) (.cells #[.string R, .string C, .int .i64 t, .bool G, .string V] 41))
 have HS := Lib.hid (And.intro hR (And.intro hC (And.intro hV (And.intro ht0 ht1))))
 clear c1 g1 hR hC hV ht0 ht1
 go_wp2_with fail
 refine (l01Below_any T p a len cap zs i1 h1 14 _ C1.out (by omega) (by omega)).mono ?_
 rintro e w3 ⟨y, i3, h3, hy0, hy1, rfl, c3, g3⟩
 have C3 := Lib.hid c3
 have O3 := Lib.hid (grown_blk g3 O1.out (by omega))
 have X3 := Lib.hid (grown_blk g3 X1.out (by have := P1.out; omega))
 have G3 := Lib.hid (grown_two G1.out g3)
 clear c3 g3
 rcases (show y = 0 ∨ y = 1 ∨ y = 2 ∨ y = 3 ∨ 4 ≤ y by omega) with hk | hk | hk | hk | hk
 · skip
   have C3v := Lib.hid (C3.out.new (.cells #[.string ⟨#[]⟩, .string ⟨#[97, 32, 98]⟩, .string ⟨#[97, 98, 99, 100, 101, 102, 103, 104, 105, 106, 107, 108, 109, 110, 111, 112]⟩, .string ⟨#[97, 98, 99, 100, 101, 102, 103, 104, 105, 106, 107, 108, 109, 110, 111, 112, 113]⟩, .string ⟨#[0]⟩] 9))
   have L3 := Lib.hid (show w1.heap.size < w3.heap.size from (Array.getElem?_eq_some_iff.1 X3.out).1)
   have P3 := Lib.hid C3.out.lt
   subst hk
   go_wp2_with fail
   refine (l01Pick_at (fun x => x.size ≤ 40) T p a len cap zs i3 h3 w3.heap.size 5 5 _ C3v.out (by omega) (by omega) (by simp) (by have := P3.out; omega) (new_strs w3 oddRows 9 (by decide))).mono ?_
   rintro e w4 ⟨N, i4, h4, hN, rfl, c4, g4⟩
   have C4 := Lib.hid c4
   have O4 := Lib.hid (grown_blk g4 ((alloc_old w3 _ (by have := L3.out; have := Z1.out; omega)).trans O3.out) (by omega))
   have X4 := Lib.hid (grown_blk g4 ((alloc_old w3 _ L3.out).trans X3.out) (by have := P1.out; omega))
   have G4 := Lib.hid (grown_two (grown_new1 G3.out _) g4)
   clear c4 g4
   obtain ⟨x5, y0, y1, y2, y3, y4⟩ := blk5 X4.out
   obtain ⟨o5, z0, z1, z2, z3, z4⟩ := blk5 O4.out
   unfold One5 at x5 o5
   obtain ⟨a0, a1, a2, a3, a4⟩ := x5
   obtain ⟨b0, b1, b2, b3, b4⟩ := o5
   have hne : w1.heap.size ≠ w.heap.size := by have := Z1.out; omega
   have hne' : w.heap.size ≠ w1.heap.size := by have := Z1.out; omega
   go_wp2_with fail
   refine bodyPost_ret (v := .agg #[.string N, .string C, .int .i64 t, .bool G, .string V]) (results_cell_row Tryz.results87 _ _ w.heap.size _ #[.string N, .string C, .int .i64 t, .bool G, .string V] _ _ rfl (set5 ((Below.heap_setCell _ _ _ _ hne').trans O4.out) _ _ _ _ _) Tryz.underlying41 rfl (by rw [sizeCel]; rfl)) rfl ?_
   exact ⟨⟨N, C, t, G, V⟩, i4, h4, ⟨hN, HS.out.2⟩, rfl, (C4.out.set (w := w) HL.out hpl (by have := Z1.out; omega) _ _).set5 (w := w) HL.out hpl (Nat.le_refl _) _ _ _ _ _, grown_set5 (grown_set1 G4.out (by have := Z1.out; omega) _) (Nat.le_refl _) _ _ _ _ _⟩
 · skip
   have C3v := Lib.hid (C3.out.new (.cells #[.string ⟨#[]⟩, .string ⟨#[255]⟩, .string ⟨#[126]⟩] 9))
   have L3 := Lib.hid (show w1.heap.size < w3.heap.size from (Array.getElem?_eq_some_iff.1 X3.out).1)
   have P3 := Lib.hid C3.out.lt
   subst hk
   go_wp2_with fail
   refine (l01Pick_at (fun x => x.size ≤ 40) T p a len cap zs i3 h3 w3.heap.size 3 3 _ C3v.out (by omega) (by omega) (by simp) (by have := P3.out; omega) (new_strs w3 oddCols 9 (by decide))).mono ?_
   rintro e w4 ⟨N, i4, h4, hN, rfl, c4, g4⟩
   have C4 := Lib.hid c4
   have O4 := Lib.hid (grown_blk g4 ((alloc_old w3 _ (by have := L3.out; have := Z1.out; omega)).trans O3.out) (by omega))
   have X4 := Lib.hid (grown_blk g4 ((alloc_old w3 _ L3.out).trans X3.out) (by have := P1.out; omega))
   have G4 := Lib.hid (grown_two (grown_new1 G3.out _) g4)
   clear c4 g4
   obtain ⟨x5, y0, y1, y2, y3, y4⟩ := blk5 X4.out
   obtain ⟨o5, z0, z1, z2, z3, z4⟩ := blk5 O4.out
   unfold One5 at x5 o5
   obtain ⟨a0, a1, a2, a3, a4⟩ := x5
   obtain ⟨b0, b1, b2, b3, b4⟩ := o5
   have hne : w1.heap.size ≠ w.heap.size := by have := Z1.out; omega
   have hne' : w.heap.size ≠ w1.heap.size := by have := Z1.out; omega
   go_wp2_with fail
   refine bodyPost_ret (v := .agg #[.string R, .string N, .int .i64 t, .bool G, .string V]) (results_cell_row Tryz.results87 _ _ w.heap.size _ #[.string R, .string N, .int .i64 t, .bool G, .string V] _ _ rfl (set5 ((Below.heap_setCell _ _ _ _ hne').trans O4.out) _ _ _ _ _) Tryz.underlying41 rfl (by rw [sizeCel]; rfl)) rfl ?_
   exact ⟨⟨R, N, t, G, V⟩, i4, h4, ⟨HS.out.1, hN, HS.out.2.2⟩, rfl, (C4.out.set (w := w) HL.out hpl (by have := Z1.out; omega) _ _).set5 (w := w) HL.out hpl (Nat.le_refl _) _ _ _ _ _, grown_set5 (grown_set1 G4.out (by have := Z1.out; omega) _) (Nat.le_refl _) _ _ _ _ _⟩
 · skip
   have C3v := Lib.hid (C3.out.new (.cells #[.int .i64 (-1), .int .i64 1000000001] 3))
   have L3 := Lib.hid (show w1.heap.size < w3.heap.size from (Array.getElem?_eq_some_iff.1 X3.out).1)
   have P3 := Lib.hid C3.out.lt
   subst hk
   go_wp2_with fail
   refine (l01PickInt_at (fun x => -1 ≤ x ∧ x ≤ 1000000001) T p a len cap zs i3 h3 w3.heap.size 2 2 _ C3v.out (by omega) (by omega) (by simp) (by have := P3.out; omega) (new_ints w3 [-1, 1000000001] 3 (by decide))).mono ?_
   rintro e w4 ⟨N, i4, h4, hN, rfl, c4, g4⟩
   have C4 := Lib.hid c4
   have O4 := Lib.hid (grown_blk g4 ((alloc_old w3 _ (by have := L3.out; have := Z1.out; omega)).trans O3.out) (by omega))
   have X4 := Lib.hid (grown_blk g4 ((alloc_old w3 _ L3.out).trans X3.out) (by have := P1.out; omega))
   have G4 := Lib.hid (grown_two (grown_new1 G3.out _) g4)
   clear c4 g4
   obtain ⟨x5, y0, y1, y2, y3, y4⟩ := blk5 X4.out
   obtain ⟨o5, z0, z1, z2, z3, z4⟩ := blk5 O4.out
   unfold One5 at x5 o5
   obtain ⟨a0, a1, a2, a3, a4⟩ := x5
   obtain ⟨b0, b1, b2, b3, b4⟩ := o5
   have hne : w1.heap.size ≠ w.heap.size := by have := Z1.out; omega
   have hne' : w.heap.size ≠ w1.heap.size := by have := Z1.out; omega
   go_wp2_with fail
   refine bodyPost_ret (v := .agg #[.string R, .string C, .int .i64 N, .bool G, .string V]) (results_cell_row Tryz.results87 _ _ w.heap.size _ #[.string R, .string C, .int .i64 N, .bool G, .string V] _ _ rfl (set5 ((Below.heap_setCell _ _ _ _ hne').trans O4.out) _ _ _ _ _) Tryz.underlying41 rfl (by rw [sizeCel]; rfl)) rfl ?_
   exact ⟨⟨R, C, N, G, V⟩, i4, h4, ⟨HS.out.1, HS.out.2.1, HS.out.2.2.1, hN⟩, rfl, (C4.out.set (w := w) HL.out hpl (by have := Z1.out; omega) _ _).set5 (w := w) HL.out hpl (Nat.le_refl _) _ _ _ _ _, grown_set5 (grown_set1 G4.out (by have := Z1.out; omega) _) (Nat.le_refl _) _ _ _ _ _⟩
 · skip
   subst hk
   go_wp2_with fail
   refine (l01Below_any T p a len cap zs i3 h3 2 _ C3.out (by omega) (by omega)).mono ?_
   rintro e w4 ⟨y, i4, h4, hy0, hy1, rfl, c4, g4⟩
   have P4 := Lib.hid c4.lt
   have O4 := Lib.hid (grown_blk g4 O3.out (by omega))
   have X4 := Lib.hid (grown_blk g4 X3.out (by have := P1.out; omega))
   have L4 := Lib.hid (show w1.heap.size < w4.heap.size from (Array.getElem?_eq_some_iff.1 X4.out).1)
   have G4 := Lib.hid (grown_two G3.out g4)
   have C4 := Lib.hid c4
   clear c4 g4
   rcases (show y = 0 ∨ y = 1 by omega) with rfl | rfl
   · skip
     have hmk : (Instr.makeSlice 22 (.int .i64 30) (.int .i64 30)).run Tryz.prog w4 = .ok (.slice (some ⟨w4.heap.size, 0, none⟩) 30 30) (w4.alloc (zerosObj 30)) := zeros_made 30 w4 (by omega)
     have htx := zeros_text 30 w4
     obtain ⟨N, hN⟩ : ∃ N : ByteArray, ⟨(List.replicate 30 0).toArray⟩ = N := ⟨_, rfl⟩
     have hNs : N.size ≤ 40 := by rw [← hN]; decide
     rw [hN] at htx
     have C5 := Lib.hid (C4.out.new (zerosObj 30))
     have O5 := Lib.hid ((alloc_old w4 (zerosObj 30) (by have := L4.out; have := Z1.out; omega)).trans O4.out)
     have X5 := Lib.hid ((alloc_old w4 (zerosObj 30) L4.out).trans X4.out)
     have G5 := Lib.hid (grown_new1 G4.out (zerosObj 30))
     clear hN
     obtain ⟨x5, y0, y1, y2, y3, y4⟩ := blk5 X5.out
     obtain ⟨o5, z0, z1, z2, z3, z4⟩ := blk5 O5.out
     unfold One5 at x5 o5
     obtain ⟨a0, a1, a2, a3, a4⟩ := x5
     obtain ⟨b0, b1, b2, b3, b4⟩ := o5
     have hne : w1.heap.size ≠ w.heap.size := by have := Z1.out; omega
     have hne' : w.heap.size ≠ w1.heap.size := by have := Z1.out; omega
     go_wp2_with fail
     refine bodyPost_ret (v := .agg #[.string R, .string C, .int .i64 t, .bool G, .string N]) (results_cell_row Tryz.results87 _ _ w.heap.size _ #[.string R, .string C, .int .i64 t, .bool G, .string N] _ _ rfl (set5 ((Below.heap_setCell _ _ _ _ hne').trans O5.out) _ _ _ _ _) Tryz.underlying41 rfl (by rw [sizeCel]; rfl)) rfl ?_
     exact ⟨⟨R, C, t, G, N⟩, i4, h4, ⟨HS.out.1, HS.out.2.1, hNs, HS.out.2.2.2⟩, rfl, (C5.out.set (w := w) HL.out hpl (by have := Z1.out; omega) _ _).set5 (w := w) HL.out hpl (Nat.le_refl _) _ _ _ _ _, grown_set5 (grown_set1 G5.out (by have := Z1.out; omega) _) (Nat.le_refl _) _ _ _ _ _⟩
   · skip
     have hmk : (Instr.makeSlice 22 (.int .i64 31) (.int .i64 31)).run Tryz.prog w4 = .ok (.slice (some ⟨w4.heap.size, 0, none⟩) 31 31) (w4.alloc (zerosObj 31)) := zeros_made 31 w4 (by omega)
     have htx := zeros_text 31 w4
     obtain ⟨N, hN⟩ : ∃ N : ByteArray, ⟨(List.replicate 31 0).toArray⟩ = N := ⟨_, rfl⟩
     have hNs : N.size ≤ 40 := by rw [← hN]; decide
     rw [hN] at htx
     have C5 := Lib.hid (C4.out.new (zerosObj 31))
     have O5 := Lib.hid ((alloc_old w4 (zerosObj 31) (by have := L4.out; have := Z1.out; omega)).trans O4.out)
     have X5 := Lib.hid ((alloc_old w4 (zerosObj 31) L4.out).trans X4.out)
     have G5 := Lib.hid (grown_new1 G4.out (zerosObj 31))
     clear hN
     obtain ⟨x5, y0, y1, y2, y3, y4⟩ := blk5 X5.out
     obtain ⟨o5, z0, z1, z2, z3, z4⟩ := blk5 O5.out
     unfold One5 at x5 o5
     obtain ⟨a0, a1, a2, a3, a4⟩ := x5
     obtain ⟨b0, b1, b2, b3, b4⟩ := o5
     have hne : w1.heap.size ≠ w.heap.size := by have := Z1.out; omega
     have hne' : w.heap.size ≠ w1.heap.size := by have := Z1.out; omega
     go_wp2_with fail
     refine bodyPost_ret (v := .agg #[.string R, .string C, .int .i64 t, .bool G, .string N]) (results_cell_row Tryz.results87 _ _ w.heap.size _ #[.string R, .string C, .int .i64 t, .bool G, .string N] _ _ rfl (set5 ((Below.heap_setCell _ _ _ _ hne').trans O5.out) _ _ _ _ _) Tryz.underlying41 rfl (by rw [sizeCel]; rfl)) rfl ?_
     exact ⟨⟨R, C, t, G, N⟩, i4, h4, ⟨HS.out.1, HS.out.2.1, hNs, HS.out.2.2.2⟩, rfl, (C5.out.set (w := w) HL.out hpl (by have := Z1.out; omega) _ _).set5 (w := w) HL.out hpl (Nat.le_refl _) _ _ _ _ _, grown_set5 (grown_set1 G5.out (by have := Z1.out; omega) _) (Nat.le_refl _) _ _ _ _ _⟩
 · skip
   have q0 : (y == 0) = false := by simp; omega
   have q1 : (y == 1) = false := by simp; omega
   have q2 : (y == 2) = false := by simp; omega
   have q3 : (y == 3) = false := by simp; omega
   obtain ⟨x5, y0, y1, y2, y3, y4⟩ := blk5 X3.out
   obtain ⟨o5, z0, z1, z2, z3, z4⟩ := blk5 O3.out
   unfold One5 at x5 o5
   obtain ⟨a0, a1, a2, a3, a4⟩ := x5
   obtain ⟨b0, b1, b2, b3, b4⟩ := o5
   have hne : w1.heap.size ≠ w.heap.size := by have := Z1.out; omega
   have hne' : w.heap.size ≠ w1.heap.size := by have := Z1.out; omega
   go_wp2_with fail
   refine bodyPost_ret (v := .agg #[.string R, .string C, .int .i64 t, .bool G, .string V]) (results_cell_row Tryz.results87 _ _ w.heap.size _ #[.string R, .string C, .int .i64 t, .bool G, .string V] _ _ rfl (set5 O3.out _ _ _ _ _) Tryz.underlying41 rfl (by rw [sizeCel]; rfl)) rfl ?_
   exact ⟨⟨R, C, t, G, V⟩, i3, h3, HS.out, rfl, C3.out.set5 (w := w) HL.out hpl (Nat.le_refl _) _ _ _ _ _, grown_set5 G3.out (Nat.le_refl _) _ _ _ _ _⟩
theorem seven {x : ByteArray} (b0 b1 b2 b3 b4 b5 b6 : UInt8) (h : x ∈ [(⟨#[b0]⟩ : ByteArray), ⟨#[b1]⟩, ⟨#[b2]⟩, ⟨#[b3]⟩, ⟨#[b4]⟩, ⟨#[b5]⟩, ⟨#[b6]⟩]) : x.size ≤ 1 := by
 simp only [List.mem_cons, List.not_mem_nil, or_false] at h
 rcases h with rfl | rfl | rfl | rfl | rfl | rfl | rfl <;> exact Nat.le_refl _
theorem ten (y : Int) (h0 : 0 ≤ y) (h1 : y < 10) : y = 0 ∨ y = 1 ∨ y = 2 ∨ 3 ≤ y := by omega

set_option maxHeartbeats 1000000 in
set_option maxRecDepth 100000 in
theorem l01Bent_at (T p : Nat) (a : Option Addr) (len cap : Nat) (zs : List Int) (i : Nat) (h : Int) (s : ByteArray) (w : World) (cu : CurAt w T p a len cap zs i h) (hs : s.size ≤ 1000000) :
   Calls Tryz.prog 110 #[.pointer (some ⟨p, 0, none⟩), .string s] w (SomeStr (fun t => t.size ≤ s.size + 2) T p a len cap zs w) := by
 have HC := Lib.hid cu
 clear cu
 go_enter Tryz.func110, Tryz.ntmps110
 go_wp2_with fail
 refine (l01Below_any _ _ _ _ _ _ _ _ _ _ HC.out (by omega) (by omega)).mono ?_
 rintro e w1 ⟨k, i1, h1, hk0, hk1, rfl, c1, g1⟩
 obtain ⟨k, rfl⟩ := Int.eq_ofNat_of_zero_le hk0
 have hk : k ≤ s.size := by omega
 have hki : (k : Int) ≤ (s.size : Int) := by omega
 have C1 := Lib.hid c1
 clear c1 hk1
 go_wp2_with fail
 refine (l01Below_any _ _ _ _ _ _ _ _ _ _ C1.out (by omega) (by omega)).mono ?_
 rintro e w2 ⟨y, i2, h2, hy0, hy1, rfl, c2, g2⟩
 have C2 := Lib.hid c2
 clear c2
 have HSZ := Lib.hid (show (s.extract 0 k).size = k ∧ (s.extract k s.size).size = s.size - k by rw [ByteArray.size_extract, ByteArray.size_extract]; omega)
 obtain ⟨L, hL⟩ : ∃ L, s.extract 0 k = L := ⟨_, rfl⟩
 obtain ⟨R, hR⟩ : ∃ R, s.extract k s.size = R := ⟨_, rfl⟩
 have hLs : L.size ≤ 1000000 := by rw [← hL]; have := HSZ.out; omega
 have hRs : R.size ≤ 1000000 := by rw [← hR]; have := HSZ.out; omega
 have HLR := Lib.hid (show L.size + R.size = s.size by rw [← hL, ← hR]; have := HSZ.out; omega)
 rcases ten y hy0 hy1 with rfl | rfl | rfl | hy3
 · go_wp2
   go_ret
   exact ⟨L, i2, h2, by have := HLR.out; omega, rfl, C2.out, g1.trans g2⟩
 · go_wp2_with fail
   go_region_held3 (fun w' => True) (exact trivial) (first | (go_at_call 64; refine (l01Pick_at (fun t => t.size ≤ 1) T p a len cap zs i2 h2 w2.heap.size 7 7 _ ((C2.out.drewN 1).kept (World.grownBy_alloc _ _ none) (by simp) (fun _ _ => Or.inl (by simp))) (by omega) (by omega) (by simp) (by have := C2.out.lt; omega) (new_strs (w2.drewN 1) [(⟨#[48]⟩ : ByteArray), ⟨#[32]⟩, ⟨#[255]⟩, ⟨#[10]⟩, ⟨#[97]⟩, ⟨#[0]⟩, ⟨#[128]⟩] 9 (fun x hx => seven _ _ _ _ _ _ _ hx))).mono ?_; rintro e w3 ⟨x, i3, h3, hx, rfl, c3, g3⟩; have C3 := Lib.hid c3; have q1 : ¬ 9223372036854775807 < L.size + x.size := (by omega); have q2 : ¬ 9223372036854775807 < L.size + x.size + R.size := (by omega); clear c3))
   go_wp2_with fail
   go_ret
   refine ⟨_, i3, h3, ?_, rfl, C3.out, (g1.trans g2).trans (((grown_drewN w2 1 (some p)).trans ((World.grownBy_alloc _ _ none).but _)).trans g3)⟩
   have := HLR.out
   show (L ++ x ++ R).size ≤ s.size + 2
   rw [ByteArray.size_append, ByteArray.size_append]
   omega
 · by_cases hkl : k < s.size
   · have hki1 : (k : Int) < (s.size : Int) := by omega
     obtain ⟨R2, hR2⟩ : ∃ R, s.extract (k + 1) s.size = R := ⟨_, rfl⟩
     have HR2 := Lib.hid (show R2.size + L.size + 1 = s.size by rw [← hR2, ← hL, ByteArray.size_extract]; have := HSZ.out; omega)
     have hR2s : R2.size ≤ 1000000 := by have := HR2.out; omega
     have s1 : IntKind.i64.wrap ((k : Int) + 1) = (k : Int) + 1 := IntWalk.i64_in _ (by omega)
     have s2 : ((k : Int) + 1).toNat = k + 1 := by omega
     have s3 : (k : Int) + 1 ≤ (s.size : Int) := by omega
     have s4 : (0 : Int) ≤ (k : Int) + 1 := by omega
     clear hR hRs R HLR
     go_wp2_with fail
     go_region_held3 (fun w' => True) (exact trivial) (first | (go_at_call 64; refine (l01Pick_at (fun t => t.size ≤ 1) T p a len cap zs i2 h2 w2.heap.size 7 7 _ ((C2.out.drewN 1).kept (World.grownBy_alloc _ _ none) (by simp) (fun _ _ => Or.inl (by simp))) (by omega) (by omega) (by simp) (by have := C2.out.lt; omega) (new_strs (w2.drewN 1) [(⟨#[48]⟩ : ByteArray), ⟨#[65]⟩, ⟨#[0]⟩, ⟨#[57]⟩, ⟨#[122]⟩, ⟨#[1]⟩, ⟨#[129]⟩] 9 (fun x hx => seven _ _ _ _ _ _ _ hx))).mono ?_; rintro e w3 ⟨x, i3, h3, hx, rfl, c3, g3⟩; have C3 := Lib.hid c3; have q1 : ¬ 9223372036854775807 < L.size + x.size := (by omega); have q2 : ¬ 9223372036854775807 < L.size + x.size + R2.size := (by omega); clear c3))
     go_wp2_with fail
     go_ret
     refine ⟨_, i3, h3, ?_, rfl, C3.out, (g1.trans g2).trans (((grown_drewN w2 1 (some p)).trans ((World.grownBy_alloc _ _ none).but _)).trans g3)⟩
     have := HR2.out
     show (L ++ x ++ R2).size ≤ s.size + 2
     rw [ByteArray.size_append, ByteArray.size_append]
     omega
   · go_wp2
     go_ret
     exact ⟨s, i2, h2, by omega, rfl, C2.out, g1.trans g2⟩
 · go_wp2
   go_ret
   exact ⟨s, i2, h2, by omega, rfl, C2.out, g1.trans g2⟩
end Go.Proofs.YtkomnnijnggbpaaGreatDoor
