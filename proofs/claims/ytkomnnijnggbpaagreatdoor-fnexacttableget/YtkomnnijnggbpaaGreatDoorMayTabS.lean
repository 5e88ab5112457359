/- The model's TableMay. -/
import Derived.Test.YtkomnnijnggbpaaGreatDoorGetTabS
import Derived.Test.YtkomnnijnggbpaaGreatDoorZ1
namespace Go.Proofs.YtkomnnijnggbpaaGreatDoor
open Go.RowKit
set_option linter.unusedVariables false

def tabMay (xs : List Cel) (k : Nat) (R C : List UInt8) : Bool := decide (k = 0) && mayHave (filterB (xs.map nameKey)) (R ++ 0 :: C)
theorem tab_code {l : List UInt8} {xs : List Cel} {c : Conf} {k : Nat} (h : Tab l xs c k) : k ≤ 2 := by
 rcases h with ⟨rfl, _⟩ | ⟨_, _, rfl, _⟩
 · omega
 · split <;> omega
set_option maxHeartbeats 2000000 in
set_option maxRecDepth 100000 in
theorem specTableMay (s R C : ByteArray) (hs : s.size ≤ 1048576) (hR : R.size ≤ 1048576) (hC : C.size ≤ 1048576) (xs : List Cel) (c : Conf) (k : Nat) (hT : Tab s.data.toList xs c k) (w : World) :
   Calls Tryz.prog 31 #[.string s, .string R, .string C] w fun e w' => e = .returned (.bool (tabMay xs k R.data.toList C.data.toList)) ∧ Below w.heap.size w w' := by
 have HT := Lib.hid hT
 have hk2 := tab_code hT
 have q1 : ¬ 9223372036854775807 < R.size + 1 := by omega
 have q2 : ¬ 9223372036854775807 < R.size + 1 + C.size := by omega
 clear hT
 go_enter Tryz.func31, Tryz.ntmps31
 go_wp2_with fail
 refine (specGetTable s hs _).mono ?_
 rintro e w1 ⟨v, xs', c', k', rfl, hT', o1, b1⟩
 obtain ⟨rfl, rfl, rfl⟩ := tab_one HT.out hT'
 obtain ⟨ad, cp, hv, _, hlc⟩ := own_parts o1
 subst hv
 obtain ⟨ev, sz, pk⟩ := c
 have O1 := Lib.hid (o1.new (.cells #[.int .i64 ev, .int .i64 sz, .bool pk] 26))
 have B1 := Lib.hid (b1.alloc b1.size (.cells #[.int .i64 ev, .int .i64 sz, .bool pk] 26))
 unfold confV
 clear o1 b1 hT'
 by_cases hk : k = 0
 · subst hk
   obtain ⟨m, hm⟩ : ∃ m, mayHave (filterB (xs.map nameKey)) (R.data.toList ++ 0 :: C.data.toList) = m := ⟨_, rfl⟩
   have HM := Lib.hid hm
   have HB := Lib.hid (show tabMay xs 0 R.data.toList C.data.toList = m by unfold tabMay; rw [hm]; simp)
   obtain ⟨FL, hFL, hFLl⟩ := text_of (filterB (xs.map nameKey))
   have hx60 := (tab_few HT.out).1
   have hFs : FL.size ≤ 1048576 := by
     rw [hFLl, filter_len (by rw [List.length_map]; omega)]
     have := fsize_le (n := (xs.map nameKey).length) (by rw [List.length_map]; omega)
     omega
   have HFL := Lib.hid (as_text hFL)
   have HFF := Lib.hid hFL
   have HOK := Lib.hid (tab_few HT.out).2
   clear hm hFL hFLl
   go_wp2_with fail
   refine (specNames ad xs.length cp xs (by omega) (fun x hx => names_small HOK.out hx) _ O1.out.row.o).mono ?_
   rintro r w4 ⟨v4, rfl, o4, b4⟩
   have L4 := Lib.hid (B1.out.trans (b4.mono B1.out.size))
   obtain ⟨ad4, cp4, hv4⟩ := o4.form
   subst hv4
   have hlm : (xs.map nameOf).length = xs.length := List.length_map _
   have HRS := Lib.hid (show StrAt w4 ad4 xs.length cp4 (xs.map nameOf) by have := o4; rw [hlm] at this; exact this.row)
   try rw [hlm]
   clear hlm
   clear b4 o4
   go_wp2_with fail
   refine (specFilter ad4 xs.length cp4 (xs.map nameOf) (by omega) (names_fit HOK.out) _ HRS.out).mono ?_
   rw [names_lists, HFL.out]
   rintro r w5 ⟨rfl, b5⟩
   have L5 := Lib.hid (L4.out.trans (b5.mono L4.out.size))
   clear b5
   go_wp2_with fail
   refine (specMayHave FL _ _ hFs ?_).mono ?_
   · rw [ByteArray.size_append, ByteArray.size_append]
     unfold maxLen
     have e1 : (⟨#[0]⟩ : ByteArray).size = 1 := rfl
     omega
   rw [HFF.out]
   simp only [ByteArray.data_append, Array.toList_append, List.append_assoc, List.cons_append, List.nil_append]
   rw [HM.out]
   rintro r w6 ⟨rfl, b6⟩
   have L6 := Lib.hid (L5.out.trans (b6.mono L5.out.size))
   clear b6
   go_wp2
   go_ret
   exact ⟨by rw [HB.out]; rfl, L6.out⟩
 · have hki : ¬ (k : Int) = 0 := by omega
   have HB := Lib.hid (show tabMay xs k R.data.toList C.data.toList = false by unfold tabMay; rw [show decide (k = 0) = false from decide_eq_false hk]; rfl)
   clear hk
   go_wp2
   go_ret
   exact ⟨by rw [HB.out]; rfl, B1.out⟩
end Go.Proofs.YtkomnnijnggbpaaGreatDoor
