/- The model's draws, as plain functions, and what a cursor is in memory. -/
import Derived.Test.YtlnjaebfdemlgaaPureA
import Derived.Test.YtlnjaebfdemlgaaProg
namespace Go.Proofs.Ytlnjaebfdemlgaa
open Go.RowKit
set_option linter.unusedVariables false

/-- The next number of a draw. -/
def lcg (h : Int) : Int := wrap64 (wrap64 (h * 6364136223846793005) + 1442695040888963407)
/-- Eight bits of it. -/
def mix (h : Int) : Int := bits .and .i64 (bits .xor .i64 (h / 8589934592) (h / 35184372088832)) 255
/-- A byte that is drawn, and the cursor behind it. -/
def gByte (len : Nat) (zs : List Int) (i : Nat) (h : Int) : Int := if i < len then bits .and .i64 (mix (lcg h) + zs.getD i 0) 255 else mix (lcg h)
def gNext (len : Nat) (i : Nat) : Nat := if i < len then i + 1 else i

theorem and255 (x : Int) : bits .and .i64 x 255 = x % 256 := by
  show IntKind.i64.wrap ((BitVec.ofInt 64 x &&& BitVec.ofInt 64 255).toNat : Int) = _
  rw [BitVec.toNat_and]
  have e : (BitVec.ofInt 64 255).toNat = 2 ^ 8 - 1 := by decide
  rw [e, Nat.and_two_pow_sub_one_eq_mod, IntKind.wrap_i64]
  have : ((BitVec.ofInt 64 x).toNat : Int) = x % 18446744073709551616 := by
    rw [BitVec.toNat_ofInt]; simp; omega
  omega

theorem mix_bd (h : Int) : 0 ≤ mix h ∧ mix h ≤ 255 := by unfold mix; rw [and255]; omega
theorem gByte_bd (len : Nat) (zs : List Int) (i : Nat) (h : Int) : 0 ≤ gByte len zs i h ∧ gByte len zs i h ≤ 255 := by
  unfold gByte
  split
  · rw [and255]; omega
  · exact mix_bd _
theorem gNext_le {len i : Nat} (h : i ≤ len) : gNext len i ≤ len := by unfold gNext; split <;> omega
theorem lcg_bd (h : Int) : -9223372036854775808 ≤ lcg h ∧ lcg h ≤ 9223372036854775807 := by unfold lcg wrap64; omega

/-- A row of bytes that can be read, away from block p. -/
def Bytes (w : World) (p : Nat) (a : Option Addr) (len : Nat) (zs : List Int) : Prop :=
  len ≤ maxLen ∧ ∀ k, k < len → ∃ b off, a = some ⟨b, off, none⟩ ∧ b < w.heap.size ∧ b ≠ p ∧ w.cell? ⟨b, off + k, none⟩ = some (.int .u8 (zs.getD k 0)) ∧ 0 ≤ zs.getD k 0 ∧ zs.getD k 0 ≤ 255

/-- A cursor at block p, over a row of bytes. -/
structure CurAt (w : World) (T p : Nat) (a : Option Addr) (len cap : Nat) (zs : List Int) (i : Nat) (h : Int) : Prop where
  block : w.heap[p]? = some (.cells #[.slice a len cap, .int .i64 i, .int .i64 h] T (0, 0))
  bytes : Bytes w p a len zs
  le : i ≤ len

theorem Bytes.kept {w w' : World} {p len : Nat} {a : Option Addr} {zs : List Int} (h : Bytes w p a len zs) (hg : w.grownBy w' (some p)) : Bytes w' p a len zs := by
  refine ⟨h.1, fun k hk => ?_⟩
  obtain ⟨b, off, ha, hb, hne, hc, hr⟩ := h.2 k hk
  exact ⟨b, off, ha, Nat.lt_of_lt_of_le hb hg.size, hne, (World.cell?_of_block (w := w) (hg.block b hb (by simpa using hne))).trans hc, hr⟩

theorem CurAt.lt {w : World} {T p : Nat} {a : Option Addr} {len cap : Nat} {zs : List Int} {i : Nat} {h : Int} (c : CurAt w T p a len cap zs i h) : p < w.heap.size := (Array.getElem?_eq_some_iff.1 c.block).1

theorem CurAt.cells {w : World} {T p : Nat} {a : Option Addr} {len cap : Nat} {zs : List Int} {i : Nat} {h : Int} (c : CurAt w T p a len cap zs i h) :
    w.cell? ⟨p, 0, none⟩ = some (.slice a len cap) ∧ w.cell? ⟨p, 1, none⟩ = some (.int .i64 i) ∧ w.cell? ⟨p, 2, none⟩ = some (.int .i64 h) ∧ w.frozen? ⟨p, 1, none⟩ = false ∧ w.frozen? ⟨p, 2, none⟩ = false := by
  have hb := c.block
  refine ⟨?_, ?_, ?_, ?_, ?_⟩ <;> simp [World.cell?, World.frozen?, hb]



/-- The cursor moved on: its number alone. -/
theorem CurAt.seth {w : World} {T p : Nat} {a : Option Addr} {len cap : Nat} {zs : List Int} {i : Nat} {h : Int} (c : CurAt w T p a len cap zs i h) (h' : Int) : CurAt (w.setCell ⟨p, 2, none⟩ (.int .i64 h')) T p a len cap zs i h' := by
  refine ⟨?_, c.bytes.kept (grown_set _ _ _ _), c.le⟩
  rw [set_block _ c.block]
  rfl
/-- Its place. -/
theorem CurAt.seti {w : World} {T p : Nat} {a : Option Addr} {len cap : Nat} {zs : List Int} {i : Nat} {h : Int} (c : CurAt w T p a len cap zs i h) (hi : i < len) (v : Value) (hv : v = .int .i64 (i + 1 : Nat)) : CurAt (w.setCell ⟨p, 1, none⟩ v) T p a len cap zs (i + 1) h := by
  subst hv
  refine ⟨?_, c.bytes.kept (grown_set _ _ _ _), hi⟩
  rw [set_block _ c.block]
  rfl
theorem CurAt.drewN {w : World} {T p : Nat} {a : Option Addr} {len cap : Nat} {zs : List Int} {i : Nat} {h : Int} (c : CurAt w T p a len cap zs i h) (n : Nat) : CurAt (w.drewN n) T p a len cap zs i h :=
  ⟨c.block, c.bytes.kept (grown_drewN _ _ _), c.le⟩
/-- Whatever keeps the cursor's block and the blocks of its bytes. -/
theorem CurAt.kept {w w' : World} {T p : Nat} {a : Option Addr} {len cap : Nat} {zs : List Int} {i : Nat} {h : Int} {row : Option Nat} (c : CurAt w T p a len cap zs i h) (hg : w.grownBy w' row) (hp : some p ≠ row) (ha : ∀ x, a = some x → some x.block ≠ row ∨ len = 0) : CurAt w' T p a len cap zs i h := by
  refine ⟨(hg.block p c.lt hp).trans c.block, ⟨c.bytes.1, fun k hk => ?_⟩, c.le⟩
  obtain ⟨b, off, hab, hb, hne, hc, hr⟩ := c.bytes.2 k hk
  have hrow : some b ≠ row := by
    rcases ha _ hab with h | h
    · exact h
    · omega
  exact ⟨b, off, hab, Nat.lt_of_lt_of_le hb hg.size, hne, (World.cell?_of_block (w := w) (hg.block b hb hrow)).trans hc, hr⟩




theorem bytes_of_row {w : World} {a : Option Addr} {len cap : Nat} {zs : List Int} (h : IsRow .u8 w a len cap zs) (p : Nat) (hp : w.heap.size ≤ p) : Bytes w p a len zs := by
  rcases h with ⟨rfl, rfl, rfl, rfl⟩ | ⟨x, rfl, hl, hm, hz, hc, hw⟩
  · exact ⟨by unfold maxLen; omega, fun k hk => by omega⟩
  · refine ⟨by omega, fun k hk => ?_⟩
    obtain ⟨b, off, spot⟩ := x
    have h0 := hc 0 (by omega)
    have hs : spot = none := by simpa [Addr.add] using World.cell?_spot h0
    subst hs
    have hk' := hc k (by omega)
    have e : (⟨b, off, none⟩ : Addr).add k = ⟨b, off + k, none⟩ := by
      unfold Addr.add; split
      · subst_vars; rfl
      · rfl
    rw [e] at hk'
    have hb := cell_lt hk'
    have hmem : zs.getD k 0 ∈ zs := by rw [List.getD_eq_getElem?_getD, List.getElem?_eq_getElem (by omega)]; exact List.getElem_mem _
    exact ⟨b, off, rfl, hb, by simp only at hb; omega, hk', wf_u8 (hw _ hmem)⟩

theorem cur_new {w : World} {a : Option Addr} {len cap T : Nat} {zs : List Int} {h : Int} (hr : Bytes w w.heap.size a len zs) :
    CurAt (w.alloc (.cells #[.slice a len cap, .int .i64 0, .int .i64 h] T)) T w.heap.size a len cap zs 0 h := by
  refine ⟨?_, ⟨hr.1, fun k hk => ?_⟩, Nat.zero_le _⟩
  · show (w.heap.push _)[w.heap.size]? = _
    rw [Array.getElem?_push, if_pos rfl]; rfl
  · obtain ⟨b, off, ha, hb, hne, hc, hr2⟩ := hr.2 k hk
    exact ⟨b, off, ha, by simp; omega, hne, (World.cell?_of_block (w := w) (Below.heap_alloc _ _ _ hb)).trans hc, hr2⟩
end Go.Proofs.Ytlnjaebfdemlgaa
/- Contracts of the model's draws: a byte, and a number below another one. -/
namespace Go.Proofs.Ytlnjaebfdemlgaa
open Go.RowKit
set_option linter.unusedVariables false


theorem gByte_in {len : Nat} {zs : List Int} {i : Nat} {h : Int} (hi : i < len) :
    bits .and .i64 (wrap64 (mix (lcg h) + wrap64 (zs[i]?.getD 0))) 255 = gByte len zs i h := by
  unfold gByte
  rw [if_pos hi, and255, and255, List.getD_eq_getElem?_getD]
  unfold wrap64
  omega

set_option maxHeartbeats 400000 in
theorem l01Byte_at (T p : Nat) (a : Option Addr) (len cap : Nat) (zs : List Int) (i : Nat) (h : Int) (w : World) (c : CurAt w T p a len cap zs i h) :
    Calls Try.prog 48 #[.pointer (some ⟨p, 0, none⟩)] w fun e w' => e = .returned (.int .i64 (gByte len zs i h)) ∧ CurAt w' T p a len cap zs (gNext len i) (lcg h) ∧ w.grownBy w' (some p) := by
  obtain ⟨c0, c1, c2, f1, f2⟩ := c.cells
  have hle := c.le
  have hml := c.bytes.1
  unfold maxLen at hml
  by_cases hi : i < len
  · obtain ⟨b, off, rfl, hb, hne, hc, hr1, hr2⟩ := c.bytes.2 i hi
    have hc2 : ∀ v, (w.setCell ⟨p, 2, none⟩ v).cell? ⟨b, off + i, none⟩ = some (.int .u8 (zs.getD i 0)) := fun v => (World.cell?_of_block (w := w) (Below.heap_setCell _ _ _ _ hne)).trans hc
    have i1 : (i : Int) < (len : Int) := by omega
    have HC := Lib.hid c
    clear c
    go_enter Try.func48, Try.ntmps48
    go_wp2
    go_quiet (fail)
    go_wp2
    go_quiet (fail)
    go_wp2
    go_quiet (fail)
    go_wp2
    go_ret
    refine ⟨ret_int (gByte_in hi), ?_, ?_⟩
    · have e : gNext len i = i + 1 := by unfold gNext; rw [if_pos hi]
      rw [e]
      exact ((HC.out.seth (lcg h)).drewN _).seti hi _ (by go_num)
    · exact ((grown_set _ _ _ _).trans (grown_drewN _ _ _)).trans (grown_set _ _ _ _)
  · have HC := Lib.hid c
    clear c
    go_enter Try.func48, Try.ntmps48
    go_wp2
    go_quiet (fail)
    go_wp2
    go_quiet (fail)
    go_wp2
    go_ret
    refine ⟨ret_int (by unfold gByte mix lcg; rw [if_neg hi]), ?_, ((grown_set _ _ _ _).trans (grown_drewN _ _ _)).trans (grown_drewN _ _ _)⟩
    have e : gNext len i = i := by unfold gNext; rw [if_neg hi]
    rw [e]
    exact ((HC.out.seth _).drewN _).drewN _

/-- A number below n that is drawn, where n is small. -/
def gBelow (len : Nat) (zs : List Int) (i : Nat) (h n : Int) : Int := gByte len zs i h % n

set_option maxHeartbeats 400000 in
/-- A number below n, of 1 .. 256. -/
theorem l01Below_small (T p : Nat) (a : Option Addr) (len cap : Nat) (zs : List Int) (i : Nat) (h n : Int) (w : World) (c : CurAt w T p a len cap zs i h) (h1 : 1 ≤ n) (h2 : n ≤ 256) :
    Calls Try.prog 37 #[.pointer (some ⟨p, 0, none⟩), .int .i64 n] w fun e w' => e = .returned (.int .i64 (gBelow len zs i h n)) ∧ CurAt w' T p a len cap zs (gNext len i) (lcg h) ∧ w.grownBy w' (some p) := by
  have hb := gByte_bd len zs i h
  have hn : (n == 0) = false := by simp; omega
  have HC := Lib.hid c
  clear c
  go_enter Try.func37, Try.ntmps37
  go_wp2_with fail
  refine (l01Byte_at _ _ _ _ _ _ _ _ _ HC.out).mono ?_
  rintro e w1 ⟨rfl, c1, g1⟩
  have C1 := Lib.hid c1
  clear c1
  go_wp2
  go_ret
  exact ⟨ret_int (by unfold gBelow; rfl), C1.out, g1⟩

set_option maxHeartbeats 400000 in
/-- Nothing is below a number that is not above 0. -/
theorem l01Below_none (p : Nat) (n : Int) (w : World) (h1 : n ≤ 0) :
    Calls Try.prog 37 #[.pointer (some ⟨p, 0, none⟩), .int .i64 n] w fun e w' => e = .returned (.int .i64 0) ∧ w = w' := by
  go_enter Try.func37, Try.ntmps37
  go_wp2
  go_ret
  exact ⟨rfl, rfl⟩

/-- Some number of 0 .. n-1, and the cursor somewhere behind. -/
def SomeBelow (n : Int) (T p : Nat) (a : Option Addr) (len cap : Nat) (zs : List Int) (w : World) (e : Ending) (w' : World) : Prop :=
  ∃ x i h, 0 ≤ x ∧ x < n ∧ e = .returned (.int .i64 x) ∧ CurAt w' T p a len cap zs i h ∧ w.grownBy w' (some p)

set_option maxHeartbeats 1000000 in
theorem l01Below_any (T p : Nat) (a : Option Addr) (len cap : Nat) (zs : List Int) (i : Nat) (h n : Int) (w : World) (c : CurAt w T p a len cap zs i h) (h1 : 1 ≤ n) (h2 : n ≤ 9223372036854775807) :
    Calls Try.prog 37 #[.pointer (some ⟨p, 0, none⟩), .int .i64 n] w (SomeBelow n T p a len cap zs w) := by
  by_cases hs : n ≤ 256
  · refine (l01Below_small T p a len cap zs i h n w c h1 hs).mono ?_
    rintro e w' ⟨rfl, c1, g1⟩
    have hb := gByte_bd len zs i h
    exact ⟨_, _, _, Int.emod_nonneg _ (by omega), Int.emod_lt_of_pos _ (by omega), rfl, c1, g1⟩
  · have hn : (n == 0) = false := by simp; omega
    have HC := Lib.hid c
    clear c
    go_enter Try.func37, Try.ntmps37
    go_wp2_with fail
    refine (l01Byte_at _ _ _ _ _ _ _ _ _ HC.out).mono ?_
    rintro e w1 ⟨rfl, c1, g1⟩
    have b1 := gByte_bd len zs i h
    generalize gByte len zs i h = x1 at b1 ⊢
    have C1 := Lib.hid c1
    clear c1
    go_wp2_with fail
    refine (l01Byte_at _ _ _ _ _ _ _ _ _ C1.out).mono ?_
    rintro e w2 ⟨rfl, c2, g2⟩
    have b2 := gByte_bd len zs (gNext len i) (lcg h)
    generalize gByte len zs (gNext len i) (lcg h) = x2 at b2 ⊢
    have C2 := Lib.hid c2
    clear c2
    go_wp2_with fail
    refine (l01Byte_at _ _ _ _ _ _ _ _ _ C2.out).mono ?_
    rintro e w3 ⟨rfl, c3, g3⟩
    have b3 := gByte_bd len zs (gNext len (gNext len i)) (lcg (lcg h))
    generalize gByte len zs (gNext len (gNext len i)) (lcg (lcg h)) = x3 at b3 ⊢
    have C3 := Lib.hid c3
    clear c3
    go_wp2_with fail
    refine (l01Byte_at _ _ _ _ _ _ _ _ _ C3.out).mono ?_
    rintro e w4 ⟨rfl, c4, g4⟩
    have b4 := gByte_bd len zs (gNext len (gNext len (gNext len i))) (lcg (lcg (lcg h)))
    generalize gByte len zs (gNext len (gNext len (gNext len i))) (lcg (lcg (lcg h))) = x4 at b4 ⊢
    have C4 := Lib.hid c4
    clear c4
    go_wp2
    go_ret
    exact ⟨_, _, _, Int.emod_nonneg _ (by omega), Int.emod_lt_of_pos _ (by omega), rfl, C4.out, ((g1.trans g2).trans g3).trans g4⟩

set_option maxHeartbeats 1000000 in
set_option maxRecDepth 100000 in
/-- A new cursor over a row of bytes: in a new block. -/
theorem l01New_at (a : Option Addr) (len cap : Nat) (zs : List Int) (w : World) (hr : Bytes w w.heap.size a len zs) :
    Calls Try.prog 34 #[.slice a len cap] w fun e w' => e = .returned (.pointer (some ⟨w.heap.size, 0, none⟩)) ∧ (∃ h, CurAt w' 66 w.heap.size a len cap zs 0 h) ∧ w.grownBy w' none := by
  have hml := hr.1
  unfold maxLen at hml
  have HR := Lib.hid hr
  clear hr
  go_enter Try.func34, Try.ntmps34
  go_wp2
  go_loop [3, 4] (fun hh i => ∃ (k : Nat) (h : Int), k ≤ len ∧ i = .int .i64 k ∧ hh = .int .i64 h) (fun _ i => len - (intOf i).toNat)
  case atStart => exact ⟨0, _, Nat.zero_le _, rfl, rfl⟩
  case round =>
    obtain ⟨k, h, hk, rfl, rfl⟩ := hrel
    by_cases hlt : k < len
    · by_cases h4 : (k : Int) < 4000
      · obtain ⟨b, off, rfl, hb, hne, hc, hr1, hr2⟩ := HR.out.2 k hlt
        have i1 : (k : Int) < (len : Int) := by omega
        go_wp2
        go_round
        case rel => exact ⟨k + 1, _, by omega, by go_num, rfl⟩
        case measure => simp [intOf]; omega
      · go_wp2
        go_ret
        exact ⟨rfl, ⟨h, cur_new HR.out⟩, World.grownBy_alloc _ _ _⟩
    · go_wp2
      go_ret
      exact ⟨rfl, ⟨h, cur_new HR.out⟩, World.grownBy_alloc _ _ _⟩
end Go.Proofs.Ytlnjaebfdemlgaa
/- The model's picks out of a list. -/
namespace Go.Proofs.Ytlnjaebfdemlgaa
open Go.RowKit
set_option linter.unusedVariables false

/-- The cells of a new block. -/
theorem new_cell (w : World) (cs : Array Value) (T j : Nat) : (w.alloc (.cells cs T)).cell? ⟨w.heap.size, j, none⟩ = cs[j]? := by
  have : (w.alloc (.cells cs T)).heap[w.heap.size]? = some (.cells cs T (0, 0)) := by
    show (w.heap.push _)[w.heap.size]? = _
    rw [Array.getElem?_push, if_pos rfl]
  unfold World.cell?
  rw [this]
  rfl

/-- The cells of a new list of numbers, of texts. -/
theorem new_ints {P : Int → Prop} (w : World) (ns : List Int) (T : Nat) (h : ∀ x ∈ ns, P x) : ∀ j, j < ns.length → ∃ x, (w.alloc (.cells (ns.map (Value.int .i64)).toArray T)).cell? ⟨w.heap.size, j, none⟩ = some (.int .i64 x) ∧ P x := by
  intro j hj
  refine ⟨ns[j], ?_, h _ (List.getElem_mem _)⟩
  rw [new_cell]
  simp [hj]
theorem new_strs {P : ByteArray → Prop} (w : World) (ns : List ByteArray) (T : Nat) (h : ∀ x ∈ ns, P x) : ∀ j, j < ns.length → ∃ x, (w.alloc (.cells (ns.map Value.string).toArray T)).cell? ⟨w.heap.size, j, none⟩ = some (.string x) ∧ P x := by
  intro j hj
  refine ⟨ns[j], ?_, h _ (List.getElem_mem _)⟩
  rw [new_cell]
  simp [hj]

/-- Some number of a list, and the cursor somewhere behind. -/
def SomeInt (P : Int → Prop) (T p : Nat) (a : Option Addr) (len cap : Nat) (zs : List Int) (w : World) (e : Ending) (w' : World) : Prop :=
  ∃ (x : Int) (i : Nat) (h : Int), P x ∧ e = .returned (.int .i64 x) ∧ CurAt w' T p a len cap zs i h ∧ w.grownBy w' (some p)
/-- Some text of a list, and the cursor somewhere behind. -/
def SomeStr (P : ByteArray → Prop) (T p : Nat) (a : Option Addr) (len cap : Nat) (zs : List Int) (w : World) (e : Ending) (w' : World) : Prop :=
  ∃ (x : ByteArray) (i : Nat) (h : Int), P x ∧ e = .returned (.string x) ∧ CurAt w' T p a len cap zs i h ∧ w.grownBy w' (some p)
/-- Yes or no, and the cursor somewhere behind. -/
def SomeBool (T p : Nat) (a : Option Addr) (len cap : Nat) (zs : List Int) (w : World) (e : Ending) (w' : World) : Prop :=
  ∃ (b : Bool) (i : Nat) (h : Int), e = .returned (.bool b) ∧ CurAt w' T p a len cap zs i h ∧ w.grownBy w' (some p)
end Go.Proofs.Ytlnjaebfdemlgaa
/- The model's draw of yes or no. -/
namespace Go.Proofs.Ytlnjaebfdemlgaa
open Go.RowKit
set_option linter.unusedVariables false

set_option maxHeartbeats 400000 in
theorem l01Once_at (T p : Nat) (a : Option Addr) (len cap : Nat) (zs : List Int) (i : Nat) (h n : Int) (w : World) (c : CurAt w T p a len cap zs i h) (h1 : 1 ≤ n) (h2 : n ≤ 256) :
    Calls Try.prog 36 #[.pointer (some ⟨p, 0, none⟩), .int .i64 n] w (SomeBool T p a len cap zs w) := by
  have HC := Lib.hid c
  clear c
  go_enter Try.func36, Try.ntmps36
  go_wp2_with fail
  refine (l01Below_small _ _ _ _ _ _ _ _ _ _ HC.out h1 h2).mono ?_
  rintro e w1 ⟨rfl, c1, g1⟩
  have C1 := Lib.hid c1
  clear c1
  go_wp2
  go_ret
  exact ⟨_, _, _, rfl, C1.out, g1⟩
end Go.Proofs.Ytlnjaebfdemlgaa
/- The model's pick of a number. -/
namespace Go.Proofs.Ytlnjaebfdemlgaa
open Go.RowKit
set_option linter.unusedVariables false

set_option maxHeartbeats 400000 in
theorem l01PickInt_at (P : Int → Prop) (T p : Nat) (a : Option Addr) (len cap : Nat) (zs : List Int) (i : Nat) (h : Int) (g m c : Nat) (w : World) (cu : CurAt w T p a len cap zs i h)
    (h1 : 1 ≤ m) (h2 : m ≤ 256) (hg : g < w.heap.size) (hp : g ≠ p) (hc : ∀ j, j < m → ∃ x, w.cell? ⟨g, j, none⟩ = some (.int .i64 x) ∧ P x) :
    Calls Try.prog 43 #[.pointer (some ⟨p, 0, none⟩), .slice (some ⟨g, 0, none⟩) m c] w (SomeInt P T p a len cap zs w) := by
  have HC := Lib.hid cu
  have HH := Lib.hid hc
  clear cu hc
  go_enter Try.func43, Try.ntmps43
  go_wp2_with fail
  refine (l01Below_any _ _ _ _ _ _ _ _ _ _ HC.out (by omega) (by omega)).mono ?_
  rintro e w1 ⟨y, i1, hh1, hy0, hy1, rfl, c1, g1⟩
  obtain ⟨y, rfl⟩ := Int.eq_ofNat_of_zero_le hy0
  have C1 := Lib.hid c1
  clear c1
  obtain ⟨x, hx, hP⟩ := HH.out y (by omega)
  have hx1 : w1.cell? ⟨g, y, none⟩ = some (.int .i64 x) := (World.cell?_of_block (w := w) (g1.block g hg (by simpa using hp))).trans hx
  clear hx HH
  have HPX := Lib.hid hP
  clear hP
  go_wp2
  go_ret
  exact ⟨x, i1, hh1, HPX.out, rfl, C1.out, g1⟩
end Go.Proofs.Ytlnjaebfdemlgaa
/- The model's pick of a text. -/
namespace Go.Proofs.Ytlnjaebfdemlgaa
open Go.RowKit
set_option linter.unusedVariables false

set_option maxHeartbeats 400000 in
theorem l01Pick_at (P : ByteArray → Prop) (T p : Nat) (a : Option Addr) (len cap : Nat) (zs : List Int) (i : Nat) (h : Int) (g m c : Nat) (w : World) (cu : CurAt w T p a len cap zs i h)
    (h1 : 1 ≤ m) (h2 : m ≤ 256) (hg : g < w.heap.size) (hp : g ≠ p) (hc : ∀ j, j < m → ∃ x, w.cell? ⟨g, j, none⟩ = some (.string x) ∧ P x) :
    Calls Try.prog 47 #[.pointer (some ⟨p, 0, none⟩), .slice (some ⟨g, 0, none⟩) m c] w (SomeStr P T p a len cap zs w) := by
  have HC := Lib.hid cu
  have HH := Lib.hid hc
  clear cu hc
  go_enter Try.func47, Try.ntmps47
  go_wp2_with fail
  refine (l01Below_any _ _ _ _ _ _ _ _ _ _ HC.out (by omega) (by omega)).mono ?_
  rintro e w1 ⟨y, i1, hh1, hy0, hy1, rfl, c1, g1⟩
  obtain ⟨y, rfl⟩ := Int.eq_ofNat_of_zero_le hy0
  have C1 := Lib.hid c1
  clear c1
  obtain ⟨x, hx, hP⟩ := HH.out y (by omega)
  have hx1 : w1.cell? ⟨g, y, none⟩ = some (.string x) := (World.cell?_of_block (w := w) (g1.block g hg (by simpa using hp))).trans hx
  clear hx HH
  have HPX := Lib.hid hP
  clear hP
  go_wp2
  go_ret
  exact ⟨x, i1, hh1, HPX.out, rfl, C1.out, g1⟩
end Go.Proofs.Ytlnjaebfdemlgaa
/- What drawn values leave behind. -/
namespace Go.Proofs.Ytlnjaebfdemlgaa
open Go.RowKit
set_option linter.unusedVariables false

/-- A number of 64 bits. -/
def I64 (x : Int) : Prop := -9223372036854775808 ≤ x ∧ x ≤ 9223372036854775807

/-- A number of 64 bits that is drawn by a code. -/
def IntOf (w : World) (e : Ending) (w' : World) : Prop := ∃ x : Int, I64 x ∧ e = .returned (.int .i64 x) ∧ Below w.heap.size w w'
/-- A short text that is drawn by a code. -/
def TextOf (w : World) (e : Ending) (w' : World) : Prop := ∃ s : ByteArray, s.size ≤ 1000 ∧ e = .returned (.string s) ∧ Below w.heap.size w w'

theorem grown_of_below {w w' : World} (h : Below w.heap.size w w') : w.grownBy w' none := ⟨h.os, h.tape, h.output, h.size, fun j hj _ => h.block j hj⟩
theorem CurAt.below {w w' : World} {T p : Nat} {a : Option Addr} {len cap : Nat} {zs : List Int} {i : Nat} {h : Int} (c : CurAt w T p a len cap zs i h) (hb : Below w.heap.size w w') : CurAt w' T p a len cap zs i h :=
  c.kept (grown_of_below hb) (by simp) (fun _ _ => Or.inl (by simp))
theorem below_bytes {w w1 : World} {a : Option Addr} {len : Nat} {zs : List Int} (hr : Bytes w w.heap.size a len zs) (hb : Below w.heap.size w w1) : Bytes w1 w1.heap.size a len zs := by
  refine ⟨hr.1, fun k hk => ?_⟩
  obtain ⟨b, off, ha, hlt, hne, hc, hr2⟩ := hr.2 k hk
  have := hb.size
  exact ⟨b, off, ha, by omega, by omega, (hb.cell (p := ⟨b, off + k, none⟩) hlt).trans hc, hr2⟩
end Go.Proofs.Ytlnjaebfdemlgaa
