/- Contracts of the model's draws: a byte, and a number below another one. -/
import Derived.Test.YtjcgbpjgoacdjaaProg
import Derived.Test.YtjcgbpjgoacdjaaZ0
namespace Go.Proofs.Ytjcgbpjgoacdjaa
open Go.RowKit
set_option linter.unusedVariables false


theorem gByte_in {len : Nat} {zs : List Int} {i : Nat} {h : Int} (hi : i < len) :
   bits .and .i64 (wrap64 (mix (lcg h) + wrap64 (zs[i]?.getD 0))) 255 = gByte len zs i h := by
 unfold gByte
 rw [if_pos hi, and255, and255, List.getD_eq_getElem?_getD]
 unfold wrap64
 omega

set_option maxHeartbeats 400000 in
theorem l01Byte_at (T p : Nat) (a : Option Addr) (len cap : Nat) (zs : List Int) (i : Nat) (h : Int) (w : World) (c : CurAt w T p a len cap zs i h) :
   Calls Try.prog 62 #[.pointer (some ⟨p, 0, none⟩)] w fun e w' => e = .returned (.int .i64 (gByte len zs i h)) ∧ CurAt w' T p a len cap zs (gNext len i) (lcg h) ∧ w.grownBy w' (some p) := by
 obtain ⟨c0, c1, c2, f1, f2⟩ := c.cells
 have hle := c.le
 have hml := c.bytes.1
 unfold maxLen at hml
 by_cases hi : i < len
 · obtain ⟨b, off, rfl, hb, hne, hc, hr1, hr2⟩ := c.bytes.2 i hi
   have hc2 : ∀ v, (w.setCell ⟨p, 2, none⟩ v).cell? ⟨b, off + i, none⟩ = some (.int .u8 (zs.getD i 0)) := fun v => (World.cell?_of_block (w := w) (Below.heap_setCell _ _ _ _ hne)).trans hc
   have i1 : (i : Int) < (len : Int) := by omega
   have HC := Lib.hid c
   clear c
   go_enter Try.func62, Try.ntmps62
   go_wp2
   go_quiet (fail)
   go_wp2
   go_quiet (fail)
   go_wp2
   go_quiet (fail)
   go_wp2
   go_ret
   refine ⟨ret_int (gByte_in hi), ?_, ?_⟩
   · have e : gNext len i = i + 1 := by unfold gNext; rw [if_pos hi]
     rw [e]
     exact ((HC.out.seth (lcg h)).drewN _).seti hi _ (by go_num)
   · exact ((grown_set _ _ _ _).trans (grown_drewN _ _ _)).trans (grown_set _ _ _ _)
 · have HC := Lib.hid c
   clear c
   go_enter Try.func62, Try.ntmps62
   go_wp2
   go_quiet (fail)
   go_wp2
   go_quiet (fail)
   go_wp2
   go_ret
   refine ⟨ret_int (by unfold gByte mix lcg; rw [if_neg hi]), ?_, ((grown_set _ _ _ _).trans (grown_drewN _ _ _)).trans (grown_drewN _ _ _)⟩
   have e : gNext len i = i := by unfold gNext; rw [if_neg hi]
   rw [e]
   exact ((HC.out.seth _).drewN _).drewN _

def gBelow (len : Nat) (zs : List Int) (i : Nat) (h n : Int) : Int := gByte len zs i h % n

set_option maxHeartbeats 400000 in
theorem l01Below_small (T p : Nat) (a : Option Addr) (len cap : Nat) (zs : List Int) (i : Nat) (h n : Int) (w : World) (c : CurAt w T p a len cap zs i h) (h1 : 1 ≤ n) (h2 : n ≤ 256) :
   Calls Try.prog 46 #[.pointer (some ⟨p, 0, none⟩), .int .i64 n] w fun e w' => e = .returned (.int .i64 (gBelow len zs i h n)) ∧ CurAt w' T p a len cap zs (gNext len i) (lcg h) ∧ w.grownBy w' (some p) := by
 have hb := gByte_bd len zs i h
 have hn : (n == 0) = false := by simp; omega
 have HC := Lib.hid c
 clear c
 go_enter Try.func46, Try.ntmps46
 go_wp2_with fail
 refine (l01Byte_at _ _ _ _ _ _ _ _ _ HC.out).mono ?_
 rintro e w1 ⟨rfl, c1, g1⟩
 have C1 := Lib.hid c1
 clear c1
 go_wp2
 go_ret
 exact ⟨ret_int (by unfold gBelow; rfl), C1.out, g1⟩

def SomeBelow (n : Int) (T p : Nat) (a : Option Addr) (len cap : Nat) (zs : List Int) (w : World) (e : Ending) (w' : World) : Prop :=
 ∃ x i h, 0 ≤ x ∧ x < n ∧ e = .returned (.int .i64 x) ∧ CurAt w' T p a len cap zs i h ∧ w.grownBy w' (some p)

set_option maxHeartbeats 1000000 in
theorem l01Below_any (T p : Nat) (a : Option Addr) (len cap : Nat) (zs : List Int) (i : Nat) (h n : Int) (w : World) (c : CurAt w T p a len cap zs i h) (h1 : 1 ≤ n) (h2 : n ≤ 9223372036854775807) :
   Calls Try.prog 46 #[.pointer (some ⟨p, 0, none⟩), .int .i64 n] w (SomeBelow n T p a len cap zs w) := by
 by_cases hs : n ≤ 256
 · refine (l01Below_small T p a len cap zs i h n w c h1 hs).mono ?_
   rintro e w' ⟨rfl, c1, g1⟩
   have hb := gByte_bd len zs i h
   exact ⟨_, _, _, Int.emod_nonneg _ (by omega), Int.emod_lt_of_pos _ (by omega), rfl, c1, g1⟩
 · have hn : (n == 0) = false := by simp; omega
   have HC := Lib.hid c
   clear c
   go_enter Try.func46, Try.ntmps46
   go_wp2_with fail
   refine (l01Byte_at _ _ _ _ _ _ _ _ _ HC.out).mono ?_
   rintro e w1 ⟨rfl, c1, g1⟩
   have b1 := gByte_bd len zs i h
   generalize gByte len zs i h = x1 at b1 ⊢
   have C1 := Lib.hid c1
   clear c1
   go_wp2_with fail
   refine (l01Byte_at _ _ _ _ _ _ _ _ _ C1.out).mono ?_
   rintro e w2 ⟨rfl, c2, g2⟩
   have b2 := gByte_bd len zs (gNext len i) (lcg h)
   generalize gByte len zs (gNext len i) (lcg h) = x2 at b2 ⊢
   have C2 := Lib.hid c2
   clear c2
   go_wp2_with fail
   refine (l01Byte_at _ _ _ _ _ _ _ _ _ C2.out).mono ?_
   rintro e w3 ⟨rfl, c3, g3⟩
   have b3 := gByte_bd len zs (gNext len (gNext len i)) (lcg (lcg h))
   generalize gByte len zs (gNext len (gNext len i)) (lcg (lcg h)) = x3 at b3 ⊢
   have C3 := Lib.hid c3
   clear c3
   go_wp2_with fail
   refine (l01Byte_at _ _ _ _ _ _ _ _ _ C3.out).mono ?_
   rintro e w4 ⟨rfl, c4, g4⟩
   have b4 := gByte_bd len zs (gNext len (gNext len (gNext len i))) (lcg (lcg (lcg h)))
   generalize gByte len zs (gNext len (gNext len (gNext len i))) (lcg (lcg (lcg h))) = x4 at b4 ⊢
   have C4 := Lib.hid c4
   clear c4
   go_wp2
   go_ret
   exact ⟨_, _, _, Int.emod_nonneg _ (by omega), Int.emod_lt_of_pos _ (by omega), rfl, C4.out, ((g1.trans g2).trans g3).trans g4⟩

set_option maxHeartbeats 1000000 in
set_option maxRecDepth 100000 in
theorem l01New_at (a : Option Addr) (len cap : Nat) (zs : List Int) (w : World) (hr : Bytes w w.heap.size a len zs) :
   Calls Try.prog 43 #[.slice a len cap] w fun e w' => e = .returned (.pointer (some ⟨w.heap.size, 0, none⟩)) ∧ (∃ h, CurAt w' 77 w.heap.size a len cap zs 0 h) ∧ w.grownBy w' none := by
 have hml := hr.1
 unfold maxLen at hml
 have HR := Lib.hid hr
 clear hr
 go_enter Try.func43, Try.ntmps43
 go_wp2
 go_loop [3, 4] (fun hh i => ∃ (k : Nat) (h : Int), k ≤ len ∧ i = .int .i64 k ∧ hh = .int .i64 h) (fun _ i => len - (intOf i).toNat)
 case atStart => exact ⟨0, _, Nat.zero_le _, rfl, rfl⟩
 case round =>
   obtain ⟨k, h, hk, rfl, rfl⟩ := hrel
   by_cases hlt : k < len
   · by_cases h4 : (k : Int) < 4000
     · obtain ⟨b, off, rfl, hb, hne, hc, hr1, hr2⟩ := HR.out.2 k hlt
       have i1 : (k : Int) < (len : Int) := by omega
       go_wp2
       go_round
       case rel => exact ⟨k + 1, _, by omega, by go_num, rfl⟩
       case measure => simp [intOf]; omega
     · go_wp2
       go_ret
       exact ⟨rfl, ⟨h, cur_new HR.out⟩, World.grownBy_alloc _ _ _⟩
   · go_wp2
     go_ret
     exact ⟨rfl, ⟨h, cur_new HR.out⟩, World.grownBy_alloc _ _ _⟩
theorem new_cell (w : World) (cs : Array Value) (T j : Nat) : (w.alloc (.cells cs T)).cell? ⟨w.heap.size, j, none⟩ = cs[j]? := by
 have : (w.alloc (.cells cs T)).heap[w.heap.size]? = some (.cells cs T (0, 0)) := by
   show (w.heap.push _)[w.heap.size]? = _
   rw [Array.getElem?_push, if_pos rfl]
 unfold World.cell?
 rw [this]
 rfl

theorem new_ints {P : Int → Prop} (w : World) (ns : List Int) (T : Nat) (h : ∀ x ∈ ns, P x) : ∀ j, j < ns.length → ∃ x, (w.alloc (.cells (ns.map (Value.int .i64)).toArray T)).cell? ⟨w.heap.size, j, none⟩ = some (.int .i64 x) ∧ P x := by
 intro j hj
 refine ⟨ns[j], ?_, h _ (List.getElem_mem _)⟩
 rw [new_cell]
 simp [hj]
theorem new_strs {P : ByteArray → Prop} (w : World) (ns : List ByteArray) (T : Nat) (h : ∀ x ∈ ns, P x) : ∀ j, j < ns.length → ∃ x, (w.alloc (.cells (ns.map Value.string).toArray T)).cell? ⟨w.heap.size, j, none⟩ = some (.string x) ∧ P x := by
 intro j hj
 refine ⟨ns[j], ?_, h _ (List.getElem_mem _)⟩
 rw [new_cell]
 simp [hj]

def SomeInt (P : Int → Prop) (T p : Nat) (a : Option Addr) (len cap : Nat) (zs : List Int) (w : World) (e : Ending) (w' : World) : Prop :=
 ∃ (x : Int) (i : Nat) (h : Int), P x ∧ e = .returned (.int .i64 x) ∧ CurAt w' T p a len cap zs i h ∧ w.grownBy w' (some p)
def SomeStr (P : ByteArray → Prop) (T p : Nat) (a : Option Addr) (len cap : Nat) (zs : List Int) (w : World) (e : Ending) (w' : World) : Prop :=
 ∃ (x : ByteArray) (i : Nat) (h : Int), P x ∧ e = .returned (.string x) ∧ CurAt w' T p a len cap zs i h ∧ w.grownBy w' (some p)
def SomeBool (T p : Nat) (a : Option Addr) (len cap : Nat) (zs : List Int) (w : World) (e : Ending) (w' : World) : Prop :=
 ∃ (b : Bool) (i : Nat) (h : Int), e = .returned (.bool b) ∧ CurAt w' T p a len cap zs i h ∧ w.grownBy w' (some p)
set_option maxHeartbeats 400000 in
theorem l01PickInt_at (P : Int → Prop) (T p : Nat) (a : Option Addr) (len cap : Nat) (zs : List Int) (i : Nat) (h : Int) (g m c : Nat) (w : World) (cu : CurAt w T p a len cap zs i h)
   (h1 : 1 ≤ m) (h2 : m ≤ 256) (hg : g < w.heap.size) (hp : g ≠ p) (hc : ∀ j, j < m → ∃ x, w.cell? ⟨g, j, none⟩ = some (.int .i64 x) ∧ P x) :
   Calls Try.prog 52 #[.pointer (some ⟨p, 0, none⟩), .slice (some ⟨g, 0, none⟩) m c] w (SomeInt P T p a len cap zs w) := by
 have HC := Lib.hid cu
 have HH := Lib.hid hc
 clear cu hc
 go_enter Try.func52, Try.ntmps52
 go_wp2_with fail
 refine (l01Below_any _ _ _ _ _ _ _ _ _ _ HC.out (by omega) (by omega)).mono ?_
 rintro e w1 ⟨y, i1, hh1, hy0, hy1, rfl, c1, g1⟩
 obtain ⟨y, rfl⟩ := Int.eq_ofNat_of_zero_le hy0
 have C1 := Lib.hid c1
 clear c1
 obtain ⟨x, hx, hP⟩ := HH.out y (by omega)
 have hx1 : w1.cell? ⟨g, y, none⟩ = some (.int .i64 x) := (World.cell?_of_block (w := w) (g1.block g hg (by simpa using hp))).trans hx
 clear hx HH
 have HPX := Lib.hid hP
 clear hP
 go_wp2
 go_ret
 exact ⟨x, i1, hh1, HPX.out, rfl, C1.out, g1⟩
set_option maxHeartbeats 400000 in
theorem l01Pick_at (P : ByteArray → Prop) (T p : Nat) (a : Option Addr) (len cap : Nat) (zs : List Int) (i : Nat) (h : Int) (g m c : Nat) (w : World) (cu : CurAt w T p a len cap zs i h)
   (h1 : 1 ≤ m) (h2 : m ≤ 256) (hg : g < w.heap.size) (hp : g ≠ p) (hc : ∀ j, j < m → ∃ x, w.cell? ⟨g, j, none⟩ = some (.string x) ∧ P x) :
   Calls Try.prog 53 #[.pointer (some ⟨p, 0, none⟩), .slice (some ⟨g, 0, none⟩) m c] w (SomeStr P T p a len cap zs w) := by
 have HC := Lib.hid cu
 have HH := Lib.hid hc
 clear cu hc
 go_enter Try.func53, Try.ntmps53
 go_wp2_with fail
 refine (l01Below_any _ _ _ _ _ _ _ _ _ _ HC.out (by omega) (by omega)).mono ?_
 rintro e w1 ⟨y, i1, hh1, hy0, hy1, rfl, c1, g1⟩
 obtain ⟨y, rfl⟩ := Int.eq_ofNat_of_zero_le hy0
 have C1 := Lib.hid c1
 clear c1
 obtain ⟨x, hx, hP⟩ := HH.out y (by omega)
 have hx1 : w1.cell? ⟨g, y, none⟩ = some (.string x) := (World.cell?_of_block (w := w) (g1.block g hg (by simpa using hp))).trans hx
 clear hx HH
 have HPX := Lib.hid hP
 clear hP
 go_wp2
 go_ret
 exact ⟨x, i1, hh1, HPX.out, rfl, C1.out, g1⟩
set_option maxHeartbeats 400000 in
theorem l01Once_at (T p : Nat) (a : Option Addr) (len cap : Nat) (zs : List Int) (i : Nat) (h n : Int) (w : World) (c : CurAt w T p a len cap zs i h) (h1 : 1 ≤ n) (h2 : n ≤ 256) :
   Calls Try.prog 45 #[.pointer (some ⟨p, 0, none⟩), .int .i64 n] w (SomeBool T p a len cap zs w) := by
 have HC := Lib.hid c
 clear c
 go_enter Try.func45, Try.ntmps45
 go_wp2_with fail
 refine (l01Below_small _ _ _ _ _ _ _ _ _ _ HC.out h1 h2).mono ?_
 rintro e w1 ⟨rfl, c1, g1⟩
 have C1 := Lib.hid c1
 clear c1
 go_wp2
 go_ret
 exact ⟨_, _, _, rfl, C1.out, g1⟩
end Go.Proofs.Ytjcgbpjgoacdjaa
/- The model's draws together. -/
namespace Go.Proofs.Ytjcgbpjgoacdjaa
end Go.Proofs.Ytjcgbpjgoacdjaa
