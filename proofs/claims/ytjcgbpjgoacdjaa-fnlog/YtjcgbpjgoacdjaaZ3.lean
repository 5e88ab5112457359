/- Lists of texts that come in as arguments. -/
import Derived.Test.YtjcgbpjgoacdjaaZ0
import Derived.Deep.Slices
import Derived.Deep.Fields
import Derived.ChangeSame
import Derived.WideShapes
import Derived.BigQuiet
namespace Go.Proofs.Ytjcgbpjgoacdjaa
open Go.ChangeShapes Go.WideShapes Go.Deep Go.RowKit
set_option linter.unusedVariables false

def StrsIn (w : World) (a : Option Addr) (len cap : Nat) (xs : List ByteArray) : Prop :=
 xs.length = len ∧ ((a = none ∧ len = 0 ∧ cap = 0) ∨
 ∃ x, a = some x ∧ len ≤ cap ∧ cap ≤ maxLen ∧ ∀ (i : Nat) (y : ByteArray), xs[i]? = some y → y.size ≤ maxLen ∧ w.cell? (x.add i) = some (.string y))
theorem list_of {α : Type} (P : Nat → α → Prop) (n : Nat) (h : ∀ i, i < n → ∃ y, P i y) : ∃ xs : List α, xs.length = n ∧ ∀ (i : Nat) (y : α), xs[i]? = some y → P i y := by
 induction n with
 | zero => exact ⟨[], rfl, fun i y hi => by simp at hi⟩
 | succ n ih =>
   obtain ⟨xs, hl, hx⟩ := ih (fun i hi => h i (by omega))
   obtain ⟨y, hy⟩ := h n (by omega)
   refine ⟨xs ++ [y], by simp [hl], fun i z hi => ?_⟩
   by_cases hin : i < n
   · rw [List.getElem?_append_left (by omega)] at hi
     exact hx i z hi
   · rw [List.getElem?_append_right (by omega)] at hi
     have : i = n := by
       have := (List.getElem?_eq_some_iff.1 hi).1
       simp at this
       omega
     subst this
     rw [hl] at hi
     simp at hi
     subst hi
     exact hy
section
variable {H : Type} {enc : TypeId × Value → H} {w : World} {base : Nat} {spare : Nat → Bool} {held : Bool}
set_option maxRecDepth 100000 in
theorem open_strs {a : Option Addr} {len cap : Nat} {d : DataW H} {p : List MemPlace} (h : DataW.Trod enc Try.prog w base spare held 24 (.slice a len cap) d p) : ∃ xs, StrsIn w a len cap xs := by
 obtain ⟨fuel, hf⟩ := h
 have h1 : Try.prog.cellsOf 9 = 1 := by kernel_rfl
 rcases open_slice Try.underlying24 hf with ⟨hcs, _⟩ | ⟨x, l, c, m, n, D, Pl, hcs, _, hl, hm, hmm, _, hi⟩
 · simp [Value.cells] at hcs
   obtain ⟨rfl, rfl, rfl⟩ := hcs
   exact ⟨[], rfl, .inl ⟨rfl, rfl, rfl⟩⟩
 · simp [Value.cells] at hcs
   obtain ⟨rfl, rfl, rfl⟩ := hcs
   have hml : len ≤ m := by rw [hmm]; split <;> omega
   have hel : ∀ i, i < len → ∃ y : ByteArray, y.size ≤ maxLen ∧ w.cell? (x.add i) = some (.string y) := by
     intro i hil
     obtain ⟨cs', hc, ht⟩ := hi i (by omega)
     obtain ⟨R, rfl, _, z0⟩ := DataW.trod_string Try.underlying9 ht
     rw [h1] at hc
     obtain ⟨_, _, hat⟩ := World.cells?_some hc
     refine ⟨R, z0, ?_⟩
     have := hat 0 (by omega)
     rw [Go.Deep.add_add] at this
     simpa using this
   obtain ⟨xs, hxl, hxs⟩ := list_of _ len hel
   exact ⟨xs, hxl, .inr ⟨x, rfl, hl, hm, hxs⟩⟩
end
end Go.Proofs.Ytjcgbpjgoacdjaa
/- The laws' helpers over lists of texts: a copy, a bound, a comparison. -/
namespace Go.Proofs.Ytjcgbpjgoacdjaa
open Go.RowKit
set_option linter.unusedVariables false

def StrsAt (w : World) (a : Option Addr) (len cap : Nat) (xs : List ByteArray) : Prop :=
 xs.length = len ∧ len ≤ cap ∧ cap ≤ maxLen ∧ FitS xs ∧ ∀ (k : Nat) (y : ByteArray), xs[k]? = some y → ∃ b off, a = some ⟨b, off, none⟩ ∧ b < w.heap.size ∧ w.cell? ⟨b, off + k, none⟩ = some (.string y)
theorem addr_at (b off k : Nat) : (⟨b, off, none⟩ : Addr).add k = ⟨b, off + k, none⟩ := by
 unfold Addr.add; split
 · subst_vars; rfl
 · rfl
theorem strs_at {w : World} {a : Option Addr} {len cap : Nat} {xs : List ByteArray} (h : StrsIn w a len cap xs) : StrsAt w a len cap xs := by
 obtain ⟨hl, ⟨rfl, rfl, rfl⟩ | ⟨x, rfl, hlc, hm, hx⟩⟩ := h
 · have : xs = [] := List.length_eq_zero_iff.1 hl
   subst this
   exact ⟨rfl, Nat.le_refl _, by unfold maxLen; omega, fun y hy => by simp at hy, fun k y hk => by simp at hk⟩
 · refine ⟨hl, hlc, hm, fun y hy => ?_, fun k y hk => ?_⟩
   · obtain ⟨k, hk⟩ := List.mem_iff_getElem?.1 hy
     exact (hx k y hk).1
   · have c0 := (hx k y hk).2
     obtain ⟨b, off, spot⟩ := x
     obtain ⟨y0, hy0⟩ : ∃ y, xs[0]? = some y := ⟨_, List.getElem?_eq_getElem (by have := (List.getElem?_eq_some_iff.1 hk).1; omega)⟩
     have hs : spot = none := by simpa [Addr.add] using World.cell?_spot (hx 0 y0 hy0).2
     subst hs
     rw [addr_at] at c0
     exact ⟨b, off, rfl, cell_lt c0, c0⟩
theorem StrsAt.below {w w' : World} {a : Option Addr} {len cap : Nat} {xs : List ByteArray} (h : StrsAt w a len cap xs) (hb : Below w.heap.size w w') : StrsAt w' a len cap xs := by
 refine ⟨h.1, h.2.1, h.2.2.1, h.2.2.2.1, fun k y hk => ?_⟩
 obtain ⟨b, off, e, hlt, c0⟩ := h.2.2.2.2 k y hk
 exact ⟨b, off, e, Nat.lt_of_lt_of_le hlt hb.size, (hb.cell (p := ⟨b, off + k, none⟩) hlt).trans c0⟩
def total (xs : List ByteArray) : Nat := (xs.map ByteArray.size).sum
theorem total_snoc (xs : List ByteArray) (y : ByteArray) : total (xs ++ [y]) = total xs + y.size := by unfold total; simp
def SzStr (L : Int) (len : Nat) (xs : List ByteArray) (w : World) (e : Ending) (w' : World) : Prop := ∃ m : Int, e = .returned (.int .i64 m) ∧ (m = -1 ∨ (0 ≤ m ∧ m = L - len - total xs)) ∧ w = w'

set_option maxHeartbeats 1000000 in
theorem szStringS_at (a : Option Addr) (len cap : Nat) (xs : List ByteArray) (L : Int) (h0 : 0 ≤ L) (h1 : L ≤ 1048576) (w : World) (h : StrsAt w a len cap xs) :
   Calls Try.prog 38 #[.slice a len cap, .int .i64 L] w (SzStr L len xs w) := by
 have HA := Lib.hid h
 have hlc := h.2.1
 have hcm := h.2.2.1
 unfold maxLen at hcm
 clear h
 by_cases hfew : L - len < 0
 · go_enter Try.func38, Try.ntmps38
   go_wp2
   go_ret
   exact ⟨-1, rfl, .inl rfl, rfl⟩
 · go_enter Try.func38, Try.ntmps38
   go_wp2_with fail
   go_loop [1, 5] (fun mm ii => ∃ (i : Nat) (m : Int), i ≤ len ∧ ii = .int .i64 i ∧ mm = .int .i64 m ∧ 0 ≤ m ∧ m ≤ 1048576 ∧ Hid (m = L - len - total (xs.take i))) (fun _ ii => len - (intOf ii).toNat)
   case atStart => exact ⟨0, L - len, Nat.zero_le _, rfl, rfl, by omega, by omega, by simp [Hid, total]⟩
   case round =>
     obtain ⟨i, m, hi, rfl, rfl, hm0, hm1, HM⟩ := hrel
     by_cases hlt : i < len
     · obtain ⟨y, hy⟩ : ∃ y, xs[i]? = some y := ⟨_, List.getElem?_eq_getElem (by rw [HA.out.1]; exact hlt)⟩
       have hY := HA.out.2.2.2.1 y (List.mem_of_getElem? hy)
       unfold maxLen at hY
       obtain ⟨b, off, rfl, hb, c0⟩ := HA.out.2.2.2.2 i _ hy
       have i1 : (i : Int) < (len : Int) := by omega
       have i0 : (0 : Int) ≤ (i : Int) := by omega
       have HT := Lib.hid (show total (xs.take (i + 1)) = total (xs.take i) + y.size by rw [take_next hy, total_snoc])
       clear hy
       by_cases hneg : m - y.size < 0
       · go_wp2
         go_ret
         exact ⟨-1, rfl, .inl rfl, rfl⟩
       · go_wp2
         go_round
         case rel => exact ⟨i + 1, m - y.size, by omega, by go_num, by go_num, by omega, by omega, by have := HM.out; have := HT.out; show m - (y.size : Int) = L - len - (total (xs.take (i + 1)) : Nat); omega⟩
         case measure => simp [intOf]; omega
     · obtain rfl : i = len := by omega
       have HE := Lib.hid (show xs.take i = xs from List.take_of_length_le (by rw [HA.out.1]; omega))
       go_wp2
       go_ret
       exact ⟨m, rfl, .inr ⟨hm0, by have := HM.out; rw [HE.out] at this; exact this⟩, rfl⟩

def StrBlock (w : World) (g : Nat) (xs : List ByteArray) : Prop := w.heap[g]? = some (.cells (xs.map Value.string).toArray 9 (0, 0))
theorem StrBlock.cell {w : World} {g : Nat} {xs : List ByteArray} (h : StrBlock w g xs) {k : Nat} {y : ByteArray} (hk : xs[k]? = some y) : w.cell? ⟨g, k, none⟩ = some (.string y) := by
 unfold StrBlock at h
 simp [World.cell?, h, hk]
theorem StrBlock.frozen {w : World} {g : Nat} {xs : List ByteArray} (h : StrBlock w g xs) (j : Nat) : w.frozen? ⟨g, j, none⟩ = false := by
 unfold StrBlock at h
 simp [World.frozen?, h]
theorem StrBlock.row {w : World} {g : Nat} {xs : List ByteArray} (h : StrBlock w g xs) {n : Nat} (hn : xs.length = n) : StrAt w (some ⟨g, 0, none⟩) n n xs := ⟨hn, Nat.le_refl _, fun k y hk => ⟨g, rfl, h.cell hk⟩⟩
theorem StrBlock.below {w w' : World} {g : Nat} {xs : List ByteArray} (h : StrBlock w g xs) (hb : Below w.heap.size w w') : StrBlock w' g xs := (hb.block g (Array.getElem?_eq_some_iff.1 h).1).trans h
theorem StrBlock.set {w : World} {g : Nat} {xs : List ByteArray} (h : StrBlock w g xs) (i : Nat) (y : ByteArray) : StrBlock (w.setCell ⟨g, i, none⟩ (.string y)) g (xs.set i y) := by
 unfold StrBlock at h ⊢
 rw [set_block _ h]
 simp [List.map_set]
theorem strs_made (n : Nat) (w : World) (hn : n ≤ 1048576) : ∃ W, (Instr.makeSlice 24 (.int .i64 n) (.int .i64 n)).run Try.prog w = .ok (.slice (some ⟨w.heap.size, 0, none⟩) n n) W ∧ StrBlock W w.heap.size (List.replicate n ⟨#[]⟩) ∧ Below w.heap.size w W := by
 obtain ⟨ti, hti, hz0, hz1, hz2⟩ := info_parts infoStr
 have h := run_makeSlice (P := Try.prog) w 24 9 ti (.string ⟨#[]⟩) Try.underlying24 hti hz0 .i64 .i64 n n (by omega) (by omega) (by rw [hz1]; simp; omega) (by rw [hz2]; omega) (by omega)
 rw [hz1, Int.toNat_natCast] at h
 have e2 : madeCells (Value.string ⟨#[]⟩).cells (n * 1) = ((List.replicate n (⟨#[]⟩ : ByteArray)).map Value.string).toArray := by
   apply Array.ext_getElem?
   intro j
   by_cases hj : j < n
   · have : j % 1 = 0 := by omega
     simp [madeCells, hj, Value.cells, this]
   · rw [Array.getElem?_eq_none (by simp [madeCells]; omega), Array.getElem?_eq_none (by simp; omega)]
 rw [e2] at h
 refine ⟨_, h, ?_, (Below.refl w.heap.size w).alloc (Nat.le_refl _) _⟩
 show (w.heap.push _)[w.heap.size]? = _
 simp
theorem take_put {xs : List ByteArray} {i n : Nat} {y : ByteArray} (hl : xs.length = n) (h : xs[i]? = some y) : (xs.take i ++ List.replicate (n - i) (⟨#[]⟩ : ByteArray)).set i y = xs.take (i + 1) ++ List.replicate (n - (i + 1)) (⟨#[]⟩ : ByteArray) := by
 have hi := (List.getElem?_eq_some_iff.1 h).1
 rw [take_next h, List.set_append_right _ _ (by rw [List.length_take]; omega), List.length_take, show n - i = (n - (i + 1)) + 1 by omega, List.replicate_succ, show i - min i xs.length = 0 by omega, List.set_cons_zero]
 simp

set_option maxHeartbeats 1000000 in
theorem toStringS_at (a : Option Addr) (len cap : Nat) (xs : List ByteArray) (hfew : len ≤ 1048576) (w : World) (h : StrsAt w a len cap xs) :
   Calls Try.prog 39 #[.slice a len cap] w fun e w' => ∃ g, e = .returned (.slice (some ⟨g, 0, none⟩) len len) ∧ w.heap.size ≤ g ∧ StrBlock w' g xs ∧ Below w.heap.size w w' := by
 have HA := Lib.hid h
 have hlc := h.2.1
 have hcm := h.2.2.1
 unfold maxLen at hcm
 clear h
 obtain ⟨W, hmk, hblk, hbw⟩ := strs_made len w hfew
 have HW := Lib.hid (And.intro hblk hbw)
 clear hblk hbw
 go_enter Try.func39, Try.ntmps39
 go_wp2_with fail
 clear hmk
 go_loopw [4] (fun ii wr => ∃ i : Nat, i ≤ len ∧ ii = .int .i64 i ∧ Hid (StrBlock wr w.heap.size (xs.take i ++ List.replicate (len - i) (⟨#[]⟩ : ByteArray)) ∧ Below w.heap.size w wr)) (fun ii _ => len - (intOf ii).toNat)
 case atStart => exact ⟨0, Nat.zero_le _, rfl, ⟨by rw [List.take_zero, List.nil_append, Nat.sub_zero]; exact HW.out.1, HW.out.2⟩⟩
 case round =>
   obtain ⟨i, hi, rfl, RR⟩ := hrel
   by_cases hlt : i < len
   · obtain ⟨y, hy⟩ : ∃ y, xs[i]? = some y := ⟨_, List.getElem?_eq_getElem (by rw [HA.out.1]; exact hlt)⟩
     obtain ⟨b, off, rfl, hb, c0⟩ := HA.out.2.2.2.2 i _ hy
     have c0 := (RR.out.2.cell (p := ⟨b, off + i, none⟩) hb).trans c0
     have i1 : (i : Int) < (len : Int) := by omega
     have i0 : (0 : Int) ≤ (i : Int) := by omega
     have HTS := Lib.hid (take_put HA.out.1 hy)
     obtain ⟨y0, hy0⟩ : ∃ y, (xs.take i ++ List.replicate (len - i) (⟨#[]⟩ : ByteArray))[i]? = some y := ⟨_, List.getElem?_eq_getElem (by rw [List.length_append, List.length_take, List.length_replicate, HA.out.1]; omega)⟩
     have d0 := RR.out.1.cell hy0
     have f0 := RR.out.1.frozen i
     clear hy hy0
     go_wp2_with fail
     go_roundw
     case rel => exact ⟨i + 1, by omega, by go_num, ⟨by rw [← HTS.out]; exact RR.out.1.set i y, RR.out.2.setCell (p := ⟨w.heap.size, i, none⟩) (Nat.le_refl _) _⟩⟩
     case measure => simp [intOf]; omega
   · obtain rfl : i = len := by omega
     have HE := Lib.hid (show xs.take i ++ List.replicate (i - i) (⟨#[]⟩ : ByteArray) = xs by rw [List.take_of_length_le (by rw [HA.out.1]; omega), Nat.sub_self]; simp)
     go_wp2
     go_ret
     exact ⟨w.heap.size, rfl, Nat.le_refl _, by rw [← HE.out]; exact RR.out.1, RR.out.2⟩

set_option maxHeartbeats 1000000 in
theorem eqStrs_same (a a' : Option Addr) (n c c' : Nat) (xs : List ByteArray) (hn : n ≤ 1048576) (w : World) (h : StrAt w a n c xs) (h' : StrAt w a' n c' xs) :
   Calls Try.prog 40 #[.slice a n c, .slice a' n c'] w fun e w' => e = .returned (.bool true) ∧ Below w.heap.size w w' := by
 have H1 := Lib.hid h
 have H2 := Lib.hid h'
 have hc := h.2.1
 have hc' := h'.2.1
 clear h h'
 go_enter Try.func40, Try.ntmps40
 go_wp2_with fail
 go_loopw [5] (fun ii wr => ∃ i : Nat, i ≤ n ∧ ii = .int .i64 i ∧ ∃ m, wr = w.drewN m) (fun ii _ => n - (intOf ii).toNat)
 case atStart => exact ⟨0, Nat.zero_le _, rfl, 0, rfl⟩
 case round =>
   obtain ⟨i, hi, rfl, m, rfl⟩ := hrel
   by_cases hlt : i < n
   · obtain ⟨x, hy⟩ : ∃ y, xs[i]? = some y := ⟨_, List.getElem?_eq_getElem (by rw [H1.out.1]; exact hlt)⟩
     obtain ⟨g, rfl, c0⟩ := H1.out.2.2 i _ hy
     obtain ⟨g', rfl, d0⟩ := H2.out.2.2 i _ hy
     have i1 : (i : Int) < (n : Int) := by omega
     have i0 : (0 : Int) ≤ (i : Int) := by omega
     clear hy
     go_wp2_with fail
     go_quiet (fail)
     go_wp2
     go_roundw
     case rel => exact ⟨i + 1, by omega, by go_num, _, rfl⟩
     case measure => simp [intOf]; omega
   · go_wp2
     go_ret
     exact ⟨rfl, below_draws _⟩
end Go.Proofs.Ytjcgbpjgoacdjaa
