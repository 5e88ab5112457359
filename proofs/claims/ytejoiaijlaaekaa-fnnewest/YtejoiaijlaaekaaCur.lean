/- The model's draws, as plain functions, and what a cursor is in memory. -/
import Derived.Test.YtejoiaijlaaekaaBase
namespace Go.Proofs.Ytejoiaijlaaekaa
open Go.RowKit
set_option linter.unusedVariables false

/-- The next number of a draw. -/
def lcg (h : Int) : Int := wrap64 (wrap64 (h * 6364136223846793005) + 1442695040888963407)
/-- Eight bits of it. -/
def mix (h : Int) : Int := bits .and .i64 (bits .xor .i64 (h / 8589934592) (h / 35184372088832)) 255
/-- A byte that is drawn, and the cursor behind it. -/
def gByte (len : Nat) (zs : List Int) (i : Nat) (h : Int) : Int := if i < len then bits .and .i64 (mix (lcg h) + zs.getD i 0) 255 else mix (lcg h)
def gNext (len : Nat) (i : Nat) : Nat := if i < len then i + 1 else i

theorem and255 (x : Int) : bits .and .i64 x 255 = x % 256 := by
  show IntKind.i64.wrap ((BitVec.ofInt 64 x &&& BitVec.ofInt 64 255).toNat : Int) = _
  rw [BitVec.toNat_and]
  have e : (BitVec.ofInt 64 255).toNat = 2 ^ 8 - 1 := by decide
  rw [e, Nat.and_two_pow_sub_one_eq_mod, IntKind.wrap_i64]
  have : ((BitVec.ofInt 64 x).toNat : Int) = x % 18446744073709551616 := by
    rw [BitVec.toNat_ofInt]; simp; omega
  omega

theorem mix_bd (h : Int) : 0 ≤ mix h ∧ mix h ≤ 255 := by unfold mix; rw [and255]; omega
theorem gByte_bd (len : Nat) (zs : List Int) (i : Nat) (h : Int) : 0 ≤ gByte len zs i h ∧ gByte len zs i h ≤ 255 := by
  unfold gByte
  split
  · rw [and255]; omega
  · exact mix_bd _
theorem gNext_le {len i : Nat} (h : i ≤ len) : gNext len i ≤ len := by unfold gNext; split <;> omega
theorem lcg_bd (h : Int) : -9223372036854775808 ≤ lcg h ∧ lcg h ≤ 9223372036854775807 := by unfold lcg wrap64; omega

/-- A row of bytes that can be read, away from block p. -/
def Bytes (w : World) (p : Nat) (a : Option Addr) (len : Nat) (zs : List Int) : Prop :=
  len ≤ maxLen ∧ ∀ k, k < len → ∃ b off, a = some ⟨b, off, none⟩ ∧ b < w.heap.size ∧ b ≠ p ∧ w.cell? ⟨b, off + k, none⟩ = some (.int .u8 (zs.getD k 0)) ∧ 0 ≤ zs.getD k 0 ∧ zs.getD k 0 ≤ 255

/-- A cursor at block p, over a row of bytes. -/
structure CurAt (w : World) (T p : Nat) (a : Option Addr) (len cap : Nat) (zs : List Int) (i : Nat) (h : Int) : Prop where
  block : w.heap[p]? = some (.cells #[.slice a len cap, .int .i64 i, .int .i64 h] T (0, 0))
  bytes : Bytes w p a len zs
  le : i ≤ len

theorem Bytes.kept {w w' : World} {p len : Nat} {a : Option Addr} {zs : List Int} (h : Bytes w p a len zs) (hg : w.grownBy w' (some p)) : Bytes w' p a len zs := by
  refine ⟨h.1, fun k hk => ?_⟩
  obtain ⟨b, off, ha, hb, hne, hc, hr⟩ := h.2 k hk
  exact ⟨b, off, ha, Nat.lt_of_lt_of_le hb hg.size, hne, (World.cell?_of_block (w := w) (hg.block b hb (by simpa using hne))).trans hc, hr⟩

theorem CurAt.lt {w : World} {T p : Nat} {a : Option Addr} {len cap : Nat} {zs : List Int} {i : Nat} {h : Int} (c : CurAt w T p a len cap zs i h) : p < w.heap.size := (Array.getElem?_eq_some_iff.1 c.block).1

theorem CurAt.cells {w : World} {T p : Nat} {a : Option Addr} {len cap : Nat} {zs : List Int} {i : Nat} {h : Int} (c : CurAt w T p a len cap zs i h) :
    w.cell? ⟨p, 0, none⟩ = some (.slice a len cap) ∧ w.cell? ⟨p, 1, none⟩ = some (.int .i64 i) ∧ w.cell? ⟨p, 2, none⟩ = some (.int .i64 h) ∧ w.frozen? ⟨p, 1, none⟩ = false ∧ w.frozen? ⟨p, 2, none⟩ = false := by
  have hb := c.block
  refine ⟨?_, ?_, ?_, ?_, ?_⟩ <;> simp [World.cell?, World.frozen?, hb]



/-- The cursor moved on: its number alone. -/
theorem CurAt.seth {w : World} {T p : Nat} {a : Option Addr} {len cap : Nat} {zs : List Int} {i : Nat} {h : Int} (c : CurAt w T p a len cap zs i h) (h' : Int) : CurAt (w.setCell ⟨p, 2, none⟩ (.int .i64 h')) T p a len cap zs i h' := by
  refine ⟨?_, c.bytes.kept (grown_set _ _ _ _), c.le⟩
  rw [set_block _ c.block]
  rfl
/-- Its place. -/
theorem CurAt.seti {w : World} {T p : Nat} {a : Option Addr} {len cap : Nat} {zs : List Int} {i : Nat} {h : Int} (c : CurAt w T p a len cap zs i h) (hi : i < len) (v : Value) (hv : v = .int .i64 (i + 1 : Nat)) : CurAt (w.setCell ⟨p, 1, none⟩ v) T p a len cap zs (i + 1) h := by
  subst hv
  refine ⟨?_, c.bytes.kept (grown_set _ _ _ _), hi⟩
  rw [set_block _ c.block]
  rfl
theorem CurAt.drewN {w : World} {T p : Nat} {a : Option Addr} {len cap : Nat} {zs : List Int} {i : Nat} {h : Int} (c : CurAt w T p a len cap zs i h) (n : Nat) : CurAt (w.drewN n) T p a len cap zs i h :=
  ⟨c.block, c.bytes.kept (grown_drewN _ _ _), c.le⟩
/-- Whatever keeps the cursor's block and the blocks of its bytes. -/
theorem CurAt.kept {w w' : World} {T p : Nat} {a : Option Addr} {len cap : Nat} {zs : List Int} {i : Nat} {h : Int} {row : Option Nat} (c : CurAt w T p a len cap zs i h) (hg : w.grownBy w' row) (hp : some p ≠ row) (ha : ∀ x, a = some x → some x.block ≠ row ∨ len = 0) : CurAt w' T p a len cap zs i h := by
  refine ⟨(hg.block p c.lt hp).trans c.block, ⟨c.bytes.1, fun k hk => ?_⟩, c.le⟩
  obtain ⟨b, off, hab, hb, hne, hc, hr⟩ := c.bytes.2 k hk
  have hrow : some b ≠ row := by
    rcases ha _ hab with h | h
    · exact h
    · omega
  exact ⟨b, off, hab, Nat.lt_of_lt_of_le hb hg.size, hne, (World.cell?_of_block (w := w) (hg.block b hb hrow)).trans hc, hr⟩




theorem bytes_of_row {w : World} {a : Option Addr} {len cap : Nat} {zs : List Int} (h : IsRow .u8 w a len cap zs) (p : Nat) (hp : w.heap.size ≤ p) : Bytes w p a len zs := by
  rcases h with ⟨rfl, rfl, rfl, rfl⟩ | ⟨x, rfl, hl, hm, hz, hc, hw⟩
  · exact ⟨by unfold maxLen; omega, fun k hk => by omega⟩
  · refine ⟨by omega, fun k hk => ?_⟩
    obtain ⟨b, off, spot⟩ := x
    have h0 := hc 0 (by omega)
    have hs : spot = none := by simpa [Addr.add] using World.cell?_spot h0
    subst hs
    have hk' := hc k (by omega)
    have e : (⟨b, off, none⟩ : Addr).add k = ⟨b, off + k, none⟩ := by
      unfold Addr.add; split
      · subst_vars; rfl
      · rfl
    rw [e] at hk'
    have hb := cell_lt hk'
    have hmem : zs.getD k 0 ∈ zs := by rw [List.getD_eq_getElem?_getD, List.getElem?_eq_getElem (by omega)]; exact List.getElem_mem _
    exact ⟨b, off, rfl, hb, by simp only at hb; omega, hk', wf_u8 (hw _ hmem)⟩

theorem cur_new {w : World} {a : Option Addr} {len cap T : Nat} {zs : List Int} {h : Int} (hr : Bytes w w.heap.size a len zs) :
    CurAt (w.alloc (.cells #[.slice a len cap, .int .i64 0, .int .i64 h] T)) T w.heap.size a len cap zs 0 h := by
  refine ⟨?_, ⟨hr.1, fun k hk => ?_⟩, Nat.zero_le _⟩
  · show (w.heap.push _)[w.heap.size]? = _
    rw [Array.getElem?_push, if_pos rfl]; rfl
  · obtain ⟨b, off, ha, hb, hne, hc, hr2⟩ := hr.2 k hk
    exact ⟨b, off, ha, by simp; omega, hne, (World.cell?_of_block (w := w) (Below.heap_alloc _ _ _ hb)).trans hc, hr2⟩
end Go.Proofs.Ytejoiaijlaaekaa
