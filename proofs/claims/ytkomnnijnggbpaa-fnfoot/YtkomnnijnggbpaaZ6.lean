/- The laws' cells by numbers of a code: a right list. -/
import Derived.Test.YtkomnnijnggbpaaACell
import Derived.Test.YtkomnnijnggbpaaJoinS
import Derived.Test.YtkomnnijnggbpaaZ0
import Derived.Test.YtkomnnijnggbpaaZ2
import Derived.Test.YtkomnnijnggbpaaZ4
namespace Go.Proofs.Ytkomnnijnggbpaa
open Go.RowKit
set_option linter.unusedVariables false

def GoodCels (most : Nat) (w : World) (e : Ending) (w' : World) : Prop := ∃ (v : Value) (xs : List Cel), e = .returned v ∧ OwnC w.heap.size w' v xs ∧ cellsOk xs = true ∧ xs.length ≤ most ∧ Below w.heap.size w w'
theorem block_of (w : World) (R C : ByteArray) (t : Int) (G : Bool) (V : ByteArray) : CelBlock (w.alloc (.cells #[.string R, .string C, .int .i64 t, .bool G, .string V] 36)) w.heap.size [⟨R, C, t, G, V⟩] := by
 unfold CelBlock
 exact alloc_at w _

set_option maxHeartbeats 4000000 in
set_option maxRecDepth 100000 in
theorem cells_at_of (m n : Nat) (hm : m ≤ 400) (hn : n ≤ 500) (a : Option Addr) (len cap : Nat) (zs : List Int) (w : World) (hr : Bytes w w.heap.size a len zs) (hl : len ≤ 1048576) :
   Calls Try.prog 7 #[.slice a len cap, .int .i64 m, .int .i64 n] w (GoodCels n w) := by
 have HR := Lib.hid hr
 clear hr
 have D0 := Lib.hid (show OwnC w.heap.size (w.alloc (.cells #[] 36)) (.slice (some ⟨w.heap.size, 0, none⟩) 0 0) [] from World.ownsRow_made w #[] 0 (Nat.le_refl _) (by unfold maxLen; omega) (by simp))
 have B0 := Lib.hid (one_below w (.cells #[] 36))
 go_enter Try.func7, Try.ntmps7
 go_wp2_with fail
 go_loopw [7, 8] (fun vv ii wr => ∃ (j : Nat) (xs : List Cel), j ≤ n ∧ ii = .int .i64 j ∧ xs.length ≤ j ∧ Hid (OwnC w.heap.size wr vv xs ∧ Below w.heap.size w wr ∧ cellsOk xs = true)) (fun _ ii _ => n - (intOf ii).toNat)
 case atStart => exact ⟨0, [], by omega, rfl, by simp, ⟨D0.out, B0.out, rfl⟩⟩
 case round =>
   obtain ⟨j, xs, hj, rfl, hxl, HX⟩ := hrel
   obtain ⟨ad, cp, hv⟩ := own_form HX.out.1
   rename_i v0 _
   subst hv
   have OX := Lib.hid HX.out.1
   have BX := Lib.hid HX.out.2.1
   have HOK := Lib.hid HX.out.2.2
   clear HX
   by_cases hlt : j < n
   · have i1 : (j : Int) < (n : Int) := by omega
     have Q := Lib.hid (show (m : Int) + (j : Int) = ((m + j : Nat) : Int) by omega)
     have HR1 := Lib.hid (below_bytes HR.out BX.out)
     go_wp2_with fail
     rw [Q.out]
     refine (aCell_any (m + j) (by omega) a len cap zs _ HR1.out hl).mono ?_
     rintro e w2 ⟨R, C, t, G, V, hok, hR40, hC40, hV40, rfl, b2⟩
     have HF1 := Lib.hid (fit_ok (cells_one hok))
     have HO1 := Lib.hid (cells_one hok)
     have O2 := Lib.hid (OX.out.below b2)
     have B2 := Lib.hid (BX.out.trans (b2.mono BX.out.size))
     have N3 := Lib.hid (block_of w2 R C t G V)
     have O3 := Lib.hid (O2.out.new (.cells #[.string R, .string C, .int .i64 t, .bool G, .string V] 36))
     have B3 := Lib.hid (B2.out.trans ((one_below w2 (.cells #[.string R, .string C, .int .i64 t, .bool G, .string V] 36)).mono B2.out.size))
     clear b2 hok
     go_wp2_with fail
     refine (specJoin _ 1 1 [⟨R, C, t, G, V⟩] ad xs.length cp xs (by omega) (by omega) HF1.out (fit_ok HOK.out) _ (N3.out.row rfl) O3.out.row).mono ?_
     rw [join_yes HO1.out HOK.out]
     rintro e w4 ⟨v4, rfl, o4, b4⟩
     have O4 := Lib.hid (own_base o4 B3.out.size)
     have B4 := Lib.hid (B3.out.trans (b4.mono B3.out.size))
     have H4 := Lib.hid (merge_ok HO1.out HOK.out)
     have hl4 := merge_len [⟨R, C, t, G, V⟩] xs
     clear o4 b4
     go_wp2_with fail
     go_roundw
     case rel => exact ⟨j + 1, mergeC [⟨R, C, t, G, V⟩] xs, by omega, by go_num, by simp only [List.length_singleton] at hl4; omega, ⟨O4.out, B4.out, H4.out⟩⟩
     case measure => simp [intOf]; omega
   · go_wp2
     go_ret
     exact ⟨_, xs, rfl, OX.out, HOK.out, by omega, BX.out⟩
def atOf (len : Nat) (zs : List Int) (i : Nat) : Nat := if i < len then (zs.getD i 0).toNat else (i * 7 + len) % 256
theorem at_is (a : Option Addr) (len cap : Nat) (zs : List Int) (i p : Nat) (w : World) (hr : Bytes w p a len zs) (hl : len ≤ 1048576) (hi : i ≤ 1000000) :
   Calls Try.prog 8 #[.slice a len cap, .int .i64 i] w fun e w' => e = .returned (.int .i64 (atOf len zs i : Nat)) ∧ w' = w := by
 unfold atOf
 by_cases h : i < len
 · obtain ⟨b, off, rfl, hb, hne, hc, hr1, hr2⟩ := hr.2 i h
   rw [if_pos h]
   obtain ⟨z, hz⟩ : ∃ z, zs.getD i 0 = z := ⟨_, rfl⟩
   rw [hz] at hc hr1 hr2 ⊢
   obtain ⟨z, rfl⟩ := Int.eq_ofNat_of_zero_le hr1
   have i1 : (i : Int) < (len : Int) := by omega
   rw [Int.toNat_natCast]
   clear hr hz
   go_enter Try.func8, Try.ntmps8
   go_wp2
   go_ret
   exact ⟨rfl, rfl⟩
 · rw [if_neg h]
   clear hr
   go_enter Try.func8, Try.ntmps8
   go_wp2
   go_ret
   exact ⟨ret_int (by omega), rfl⟩
def confE (len : Nat) (zs : List Int) : Nat := 1 + atOf len zs 1 % 16
def confZ (len : Nat) (zs : List Int) : Nat := 1 + atOf len zs 2 % 9
def confP (len : Nat) (zs : List Int) : Bool := ((atOf len zs 3 : Int) % 2) == 0
theorem conf_right (len : Nat) (zs : List Int) : 1 ≤ confE len zs ∧ confE len zs ≤ 16 ∧ 1 ≤ confZ len zs ∧ confZ len zs ≤ 9 := by unfold confE confZ; omega
theorem conf_ok' (len : Nat) (zs : List Int) : confOk ⟨(confE len zs : Int), (confZ len zs : Int), confP len zs⟩ = true := by
 have := conf_right len zs
 unfold confOk
 simp
 omega
theorem sizeConf7 : (Try.prog.info? 28).map (·.size) = some 3 := by kernel_rfl
set_option maxHeartbeats 1000000 in
set_option maxRecDepth 100000 in
theorem aConfig_at (a : Option Addr) (len cap : Nat) (zs : List Int) (w : World) (hr : Bytes w w.heap.size a len zs) (hl : len ≤ 1048576) :
   Calls Try.prog 9 #[.slice a len cap] w fun r w' => r = .returned (.agg #[.int .i64 (confE len zs : Nat), .int .i64 (confZ len zs : Nat), .bool (confP len zs)]) ∧ Below w.heap.size w w' := by
 have B0 := Lib.hid (one_below w (.cells #[.int .i64 0, .int .i64 0, .bool false] 28))
 have X0 := Lib.hid (alloc_at w (.cells #[.int .i64 0, .int .i64 0, .bool false] 28))
 have HR := Lib.hid (below_bytes hr B0.out)
 clear hr
 go_enter Try.func9, Try.ntmps9
 go_wp2_with fail
 refine (at_is a len cap zs 1 _ _ HR.out hl (by omega)).mono ?_
 rintro e w1 ⟨rfl, rfl⟩
 go_wp2_with fail
 refine (at_is a len cap zs 2 _ _ HR.out hl (by omega)).mono ?_
 rintro e w1 ⟨rfl, rfl⟩
 go_wp2_with fail
 refine (at_is a len cap zs 3 _ _ HR.out hl (by omega)).mono ?_
 rintro e w1 ⟨rfl, rfl⟩
 obtain ⟨w0, hw0⟩ : ∃ W, w.alloc (.cells #[.int .i64 0, .int .i64 0, .bool false] 28) = W := ⟨_, rfl⟩
 rw [hw0] at B0 X0 ⊢
 have hb := X0.out
 have y0 : w0.cell? ⟨w.heap.size, 0, none⟩ = some (.int .i64 0) := by simp [World.cell?, hb]
 have y1 : w0.cell? ⟨w.heap.size, 1, none⟩ = some (.int .i64 0) := by simp [World.cell?, hb]
 have y2 : w0.cell? ⟨w.heap.size, 2, none⟩ = some (.bool false) := by simp [World.cell?, hb]
 have z0 : w0.frozen? ⟨w.heap.size, 0, none⟩ = false := by simp [World.frozen?, hb]
 have z1 : w0.frozen? ⟨w.heap.size, 1, none⟩ = false := by simp [World.frozen?, hb]
 have z2 : w0.frozen? ⟨w.heap.size, 2, none⟩ = false := by simp [World.frozen?, hb]
 clear hb hw0 HR
 have HE := Lib.hid (show confE len zs = 1 + atOf len zs 1 % 16 from rfl)
 have HZ := Lib.hid (show confZ len zs = 1 + atOf len zs 2 % 9 from rfl)
 have HP := Lib.hid (show confP len zs = (((atOf len zs 3 : Int) % 2) == 0) from rfl)
 obtain ⟨x, hx⟩ : ∃ x, atOf len zs 1 = x := ⟨_, rfl⟩
 obtain ⟨y, hy⟩ : ∃ x, atOf len zs 2 = x := ⟨_, rfl⟩
 obtain ⟨u, hu⟩ : ∃ x, atOf len zs 3 = x := ⟨_, rfl⟩
 rw [hx] at HE ⊢
 rw [hy] at HZ ⊢
 rw [hu] at HP ⊢
 clear hx hy hu
 obtain ⟨e, he⟩ : ∃ e, 1 + x % 16 = e := ⟨_, rfl⟩
 obtain ⟨z, hz⟩ : ∃ z, 1 + y % 9 = z := ⟨_, rfl⟩
 have he' : (1 : Int) + (x : Int) % 16 = (e : Int) := by omega
 have hz' : (1 : Int) + (y : Int) % 9 = (z : Int) := by omega
 rw [he] at HE
 rw [hz] at HZ
 obtain ⟨p, hp⟩ : ∃ p, (((u : Int) % 2) == 0) = p := ⟨_, rfl⟩
 rw [hp] at HP
 clear he hz
 go_wp2_with fail
 have hX := set_block (k := 2) (.bool p) (set_block (k := 1) (.int .i64 z) (set_block (k := 0) (.int .i64 e) X0.out))
 refine bodyPost_ret (results_cell_row Try.results9 _ _ w.heap.size _ _ _ _ rfl hX Try.underlying28 rfl (by rw [sizeConf7]; rfl)) rfl ?_
 exact ⟨by rw [HE.out, HZ.out, HP.out]; rfl, ((B0.out.setCell (p := ⟨w.heap.size, 0, none⟩) (Nat.le_refl _) _).setCell (p := ⟨w.heap.size, 1, none⟩) (Nat.le_refl _) _).setCell (p := ⟨w.heap.size, 2, none⟩) (Nat.le_refl _) _⟩
theorem ents_short (e : Nat) : ∀ (xs : List Cel) (i : Nat) (last : List UInt8), (∀ x ∈ xs, cellOk x = true) → (entries e i last xs).length ≤ 71 * xs.length
 | [], _, _, _ => by simp [entries]
 | x :: r, i, last, h => by
   have h1 := entry_len (e := e) (i := i) (last := last) (h x (by simp))
   have h2 := ents_short e r (i + 1) (celKey x) (fun y hy => h y (by simp [hy]))
   rw [entries, List.length_append, List.length_cons]
   omega
theorem starts_short (e : Nat) : ∀ (xs : List Cel) (i pos : Nat) (last : List UInt8), (startsB e i pos last xs).length ≤ 2 * xs.length
 | [], _, _, _ => by simp [startsB]
 | x :: r, i, pos, last => by
   have h2 := starts_short e r (i + 1) (pos + (entry e i last x).length) (celKey x)
   rw [startsB, List.length_append, List.length_cons]
   split
   · rw [fix_length]; omega
   · simp; omega
theorem put_short (xs : List Cel) (every : Int) : (putBlock xs every).length ≤ 73 * xs.length + 2 := by
 by_cases h : putBlock xs every = []
 · rw [h]; simp
 · obtain ⟨e, _, _, _, _, hok, hb⟩ := block_ok h
   have s1 := starts_short e xs 0 0 []
   have h3 := ents_short e xs 0 [] (all_ok hok)
   have hL : (block xs e).length = (entries e 0 [] xs).length + (startsB e 0 0 [] xs).length + 2 := by
     have : block xs e = (entries e 0 [] xs ++ startsB e 0 0 [] xs) ++ fixB ((startsB e 0 0 [] xs).length / 2) 2 := by unfold block; simp
     rw [this, List.length_append, List.length_append, fix_length]
   rw [hb, hL]
   omega
theorem part_few (xs : List Cel) (n j : Nat) : (partAt n j xs).length ≤ xs.length := by
 unfold partAt
 rw [List.length_take, List.length_drop]
 omega
theorem blk_short (xs : List Cel) (c : Conf) (j : Nat) (h : xs.length ≤ 12) : blkAt xs c j ≠ [] ∧ (blkAt xs c j).length ≤ 900 := by
 have h1 := put_short (partAt c.size.toNat j xs) c.every
 have h2 := part_few xs c.size.toNat j
 have h3 := wrapB_len (l := putBlock (partAt c.size.toNat j xs) c.every) c.pack (by omega)
 unfold blkAt
 refine ⟨fun e => ?_, by omega⟩
 rw [e] at h3
 simp at h3
theorem var_3 {n : Nat} (h : n < 2097152) : (varB n).length ≤ 3 := var_len_le 2 n (by omega)
theorem last_38 {xs : List Cel} (h : cellsOk xs = true) : (lastOf [] xs).length ≤ 38 := by
 unfold lastOf
 cases hx : xs.getLast? with
 | none => simp
 | some x => exact key_small (all_ok h x (List.mem_of_getLast? hx))
theorem idx_short {xs : List Cel} {c : Conf} (hok : cellsOk xs = true) (h : xs.length ≤ 12) : ∀ k, k ≤ 12 → (idxTo xs c k).length ≤ 47 * k ∧ (outTo xs c k).length ≤ 900 * k
 | 0, _ => by simp [idxTo, outTo]
 | k + 1, hk => by
   obtain ⟨h1, h2⟩ := idx_short (c := c) hok h k (by omega)
   have h3 := (blk_short xs c k h).2
   have h4 := last_38 (cells_part hok c.size.toNat k)
   have v1 := var_3 (n := (lastOf [] (partAt c.size.toNat k xs)).length) (by omega)
   have v2 := var_3 (n := (outTo xs c k).length) (by omega)
   have v3 := var_3 (n := (blkAt xs c k).length) (by omega)
   rw [idxTo, outTo, List.length_append, List.length_append]
   unfold idxAt
   simp only [List.length_append]
   omega
theorem tab_small {xs : List Cel} {c : Conf} (hok : cellsOk xs = true) (hc : confOk c = true) (h : xs.length ≤ 12) : tabOk xs c := by
 have hn := nblk_le (xs := xs) hc
 have hi := (idx_short (c := c) hok h (nBlk xs c) (by omega)).1
 refine ⟨by omega, hok, hc, fun j _ => (blk_short xs c j h).1, fun e => ?_⟩
 have h3 := wrapB_len (l := idxTo xs c (nBlk xs c)) c.pack (by omega)
 unfold topB at e
 rw [e] at h3
 simp at h3
theorem table_short {xs : List Cel} {c : Conf} (hT : tabOk xs c) : (tableB xs c).length ≤ 130000 := by
 have h := table_len xs c
 obtain ⟨h1, h2, h3, _⟩ := tab_bounds hT
 omega
end Go.Proofs.Ytkomnnijnggbpaa
