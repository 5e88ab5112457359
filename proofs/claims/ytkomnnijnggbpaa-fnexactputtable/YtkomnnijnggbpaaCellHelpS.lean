/- The laws' helpers over lists of cells: a copy, a bound, a comparison. -/
import Derived.Test.YtkomnnijnggbpaaCellA
import Derived.Test.YtkomnnijnggbpaaCellHelp
import Derived.Test.YtkomnnijnggbpaaCellArg
import Derived.Test.YtkomnnijnggbpaaCellEq
import Derived.BigQuiet
import Derived.Deep.RegionHeld3
namespace Go.Proofs.Ytkomnnijnggbpaa
open Go.RowKit
set_option linter.unusedVariables false

/-- Cells that came in, at the places where a walk reads them. -/
def CelsAt (w : World) (a : Option Addr) (len cap : Nat) (xs : List Cel) : Prop :=
  xs.length = len ∧ len ≤ cap ∧ cap ≤ maxLen ∧ Fit xs ∧ ∀ (k : Nat) (y : Cel), xs[k]? = some y → ∃ b off, a = some ⟨b, off, none⟩ ∧ b < w.heap.size ∧
    w.cell? ⟨b, off + k * 5, none⟩ = some (.string y.row) ∧ w.cell? ⟨b, off + k * 5 + 1, none⟩ = some (.string y.col) ∧ w.cell? ⟨b, off + k * 5 + 2, none⟩ = some (.int .i64 y.time) ∧ w.cell? ⟨b, off + k * 5 + 3, none⟩ = some (.bool y.gone) ∧ w.cell? ⟨b, off + k * 5 + 4, none⟩ = some (.string y.value)
theorem addr_add (b off k : Nat) : (⟨b, off, none⟩ : Addr).add k = ⟨b, off + k, none⟩ := by
  unfold Addr.add; split
  · subst_vars; rfl
  · rfl
theorem cels_at {w : World} {a : Option Addr} {len cap : Nat} {xs : List Cel} (h : CelsIn w a len cap xs) : CelsAt w a len cap xs := by
  obtain ⟨hl, ⟨rfl, rfl, rfl⟩ | ⟨x, rfl, hlc, hm, hx⟩⟩ := h
  · have : xs = [] := List.length_eq_zero_iff.1 hl
    subst this
    exact ⟨rfl, Nat.le_refl _, by unfold maxLen; omega, fun y hy => by simp at hy, fun k y hk => by simp at hk⟩
  · refine ⟨hl, hlc, hm, fun y hy => ?_, fun k y hk => ?_⟩
    · obtain ⟨k, hk⟩ := List.mem_iff_getElem?.1 hy
      obtain ⟨h1, h2, h3, _⟩ := hx k y hk
      exact ⟨h1, h2, h3⟩
    · obtain ⟨_, _, _, _, c0, c1, c2, c3, c4⟩ := hx k y hk
      obtain ⟨b, off, spot⟩ := x
      obtain ⟨y0, hy0⟩ : ∃ y, xs[0]? = some y := ⟨_, List.getElem?_eq_getElem (by have := (List.getElem?_eq_some_iff.1 hk).1; omega)⟩
      have hs : spot = none := by simpa [Addr.add] using World.cell?_spot (hx 0 y0 hy0).2.2.2.2.1
      subst hs
      rw [addr_add] at c0 c1 c2 c3 c4
      exact ⟨b, off, rfl, cell_lt c0, c0, by rw [Nat.add_assoc]; exact c1, by rw [Nat.add_assoc]; exact c2, by rw [Nat.add_assoc]; exact c3, by rw [Nat.add_assoc]; exact c4⟩
theorem CelsAt.below {w w' : World} {a : Option Addr} {len cap : Nat} {xs : List Cel} (h : CelsAt w a len cap xs) (hb : Below w.heap.size w w') : CelsAt w' a len cap xs := by
  refine ⟨h.1, h.2.1, h.2.2.1, h.2.2.2.1, fun k y hk => ?_⟩
  obtain ⟨b, off, e, hlt, c0, c1, c2, c3, c4⟩ := h.2.2.2.2 k y hk
  exact ⟨b, off, e, Nat.lt_of_lt_of_le hlt hb.size, (hb.cell (p := ⟨b, off + k * 5, none⟩) hlt).trans c0, (hb.cell (p := ⟨b, off + k * 5 + 1, none⟩) hlt).trans c1, (hb.cell (p := ⟨b, off + k * 5 + 2, none⟩) hlt).trans c2, (hb.cell (p := ⟨b, off + k * 5 + 3, none⟩) hlt).trans c3, (hb.cell (p := ⟨b, off + k * 5 + 4, none⟩) hlt).trans c4⟩
theorem szLeft_bd {L : Int} (h0 : 0 ≤ L) (h1 : L ≤ 1048576) (R C V : ByteArray) : szLeft L R C V = -1 ∨ (0 ≤ szLeft L R C V ∧ szLeft L R C V ≤ 1048576) := by
  unfold szLeft
  split
  · right; omega
  · left; rfl

/-- What a bound over cells answers: not enough, or the cells are few. -/
def SzIs (len : Nat) (w : World) (e : Ending) (w' : World) : Prop := ∃ m : Int, e = .returned (.int .i64 m) ∧ (m = -1 ∨ (0 ≤ m ∧ len ≤ 1048576)) ∧ Below w.heap.size w w'

set_option maxHeartbeats 1000000 in
set_option maxRecDepth 100000 in
theorem szCellS_at (a : Option Addr) (len cap : Nat) (xs : List Cel) (w : World) (h : CelsAt w a len cap xs) :
    Calls Try.prog 19 #[.slice a len cap, .int .i64 1048576] w (SzIs len w) := by
  have HA := Lib.hid h
  have hlc := h.2.1
  have hcm := h.2.2.1
  unfold maxLen at hcm
  clear h
  by_cases hfew : len ≤ 1048576
  · have hpos : ¬ ((1048576 : Int) - len < 0) := by omega
    go_enter Try.func19, Try.ntmps19
    go_wp2_with fail
    go_loopw [1, 5] (fun mm ii wr => ∃ (i : Nat) (m : Int), i ≤ len ∧ ii = .int .i64 i ∧ mm = .int .i64 m ∧ 0 ≤ m ∧ m ≤ 1048576 ∧ Below w.heap.size w wr) (fun _ ii _ => len - (intOf ii).toNat)
    case atStart => exact ⟨0, 1048576 - len, Nat.zero_le _, rfl, rfl, by omega, by omega, Below.refl _ _⟩
    case round =>
      obtain ⟨i, m, hi, rfl, rfl, hm0, hm1, hbel⟩ := hrel
      have RR := Lib.hid hbel
      clear hbel
      by_cases hlt : i < len
      · obtain ⟨⟨R, C, T, G, V⟩, hy⟩ : ∃ y, xs[i]? = some y := ⟨_, List.getElem?_eq_getElem (by rw [HA.out.1]; exact hlt)⟩
        obtain ⟨hR, hC, hV⟩ := HA.out.2.2.2.1.at hy
        obtain ⟨b, off, rfl, hb, c0, c1, c2, c3, c4⟩ := (HA.out.below RR.out).2.2.2.2 i _ hy
        have i1 : (i : Int) < (len : Int) := by omega
        have HS := Lib.hid (szLeft_bd hm0 hm1 R C V)
        clear hy
        go_wp2_with fail
        refine (szCell_at R C T G V m hm0 hm1 hR hC hV _).mono ?_
        rintro e w1 ⟨rfl, hb1⟩
        have B1 := Lib.hid (RR.out.trans (hb1.mono RR.out.size))
        obtain ⟨m', hm'⟩ : ∃ m', szLeft m R C V = m' := ⟨_, rfl⟩
        rw [hm'] at HS ⊢
        clear hm' hb1 c0 c1 c2 c3 c4
        rcases HS.out with hneg | ⟨hp0, hp1⟩
        · have hn : m' < 0 := by omega
          go_wp2
          go_ret
          exact ⟨-1, rfl, .inl rfl, B1.out⟩
        · have hn : ¬ (m' < 0) := by omega
          go_wp2
          go_roundw
          case rel => exact ⟨i + 1, m', by omega, by go_num, rfl, hp0, hp1, B1.out⟩
          case measure => simp [intOf]; omega
      · go_wp2
        go_ret
        exact ⟨m, rfl, .inr ⟨hm0, hfew⟩, RR.out⟩
  · have hneg : (1048576 : Int) - len < 0 := by omega
    go_enter Try.func19, Try.ntmps19
    go_wp2
    go_ret
    exact ⟨-1, rfl, .inl rfl, Below.refl _ _⟩

theorem take_set (xs : List Cel) (i n : Nat) (y : Cel) (hn : xs.length = n) (hy : xs[i]? = some y) : (xs.take i ++ List.replicate (n - i) zeroC).set i y = xs.take (i + 1) ++ List.replicate (n - (i + 1)) zeroC := by
  have hi := (List.getElem?_eq_some_iff.1 hy).1
  have hl : (xs.take i).length = i := by rw [List.length_take]; omega
  rw [List.set_append_right _ _ (by omega), hl, Nat.sub_self, show n - i = (n - (i + 1)) + 1 by omega, List.replicate_succ, List.set_cons_zero, List.take_add_one, hy]
  simp

set_option maxHeartbeats 1000000 in
set_option maxRecDepth 100000 in
theorem toCellS_at (a : Option Addr) (len cap : Nat) (xs : List Cel) (hfew : len ≤ 1048576) (w : World) (h : CelsAt w a len cap xs) :
    Calls Try.prog 20 #[.slice a len cap] w fun e w' => ∃ g, e = .returned (.slice (some ⟨g, 0, none⟩) len len) ∧ w.heap.size ≤ g ∧ CelBlock w' g xs ∧ Below w.heap.size w w' := by
  have HA := Lib.hid h
  have hlc := h.2.1
  have hcm := h.2.2.1
  unfold maxLen at hcm
  clear h
  obtain ⟨W, hmk, hblk, hbw⟩ := cels_made len w hfew
  have HW := Lib.hid (And.intro hblk hbw)
  clear hblk hbw
  go_enter Try.func20, Try.ntmps20
  go_wp2_with fail
  clear hmk
  go_loopw [4] (fun ii wr => ∃ i : Nat, i ≤ len ∧ ii = .int .i64 i ∧ CelBlock wr w.heap.size (xs.take i ++ List.replicate (len - i) zeroC) ∧ Below w.heap.size w wr) (fun ii _ => len - (intOf ii).toNat)
  case atStart => exact ⟨0, Nat.zero_le _, rfl, by simpa using HW.out.1, HW.out.2⟩
  case round =>
    obtain ⟨i, hi, rfl, hblk, hbel⟩ := hrel
    have RR := Lib.hid hbel
    have CB := Lib.hid hblk
    clear hbel hblk
    by_cases hlt : i < len
    · obtain ⟨⟨R, C, T, G, V⟩, hy⟩ : ∃ y, xs[i]? = some y := ⟨_, List.getElem?_eq_getElem (by rw [HA.out.1]; exact hlt)⟩
      obtain ⟨b, off, rfl, hb, c0, c1, c2, c3, c4⟩ := (HA.out.below RR.out).2.2.2.2 i _ hy
      have i1 : (i : Int) < (len : Int) := by omega
      have HTS := Lib.hid (take_set xs i len _ HA.out.1 hy)
      have HLN := Lib.hid (show i < (xs.take i ++ List.replicate (len - i) zeroC).length by rw [List.length_append, List.length_take, List.length_replicate, HA.out.1]; omega)
      clear hy
      go_wp2_with fail
      refine (toCell_at R C T G V _).mono ?_
      rintro e w1 ⟨rfl, hb1⟩
      have CB1 := Lib.hid (CB.out.below hb1)
      have B1 := Lib.hid (RR.out.trans (hb1.mono RR.out.size))
      clear hb1 c0 c1 c2 c3 c4
      obtain ⟨y0, hy0⟩ : ∃ y, (xs.take i ++ List.replicate (len - i) zeroC)[i]? = some y := ⟨_, List.getElem?_eq_getElem HLN.out⟩
      have h5 := CB1.out.cell hy0
      unfold Cel5 at h5
      obtain ⟨d0, d1, d2, d3, d4⟩ := h5
      have f0 := CB1.out.frozen (i * 5)
      have f1 := CB1.out.frozen (i * 5 + 1)
      have f2 := CB1.out.frozen (i * 5 + 2)
      have f3 := CB1.out.frozen (i * 5 + 3)
      have f4 := CB1.out.frozen (i * 5 + 4)
      clear hy0
      go_wp2_with fail
      go_roundw
      case rel => exact ⟨i + 1, by omega, by go_num, by rw [← HTS.out]; exact CB1.out.set ⟨R, C, T, G, V⟩ HLN.out, set5i_below B1.out (Nat.le_refl _) _ _ _ _ _ _⟩
      case measure => simp [intOf]; omega
    · obtain rfl : i = len := by omega
      have HE := Lib.hid (show xs.take i ++ List.replicate (i - i) zeroC = xs by rw [List.take_of_length_le (by rw [HA.out.1]; omega), Nat.sub_self]; simp)
      go_wp2
      go_ret
      exact ⟨w.heap.size, rfl, Nat.le_refl _, by rw [← HE.out]; exact CB.out, RR.out⟩
end Go.Proofs.Ytkomnnijnggbpaa
