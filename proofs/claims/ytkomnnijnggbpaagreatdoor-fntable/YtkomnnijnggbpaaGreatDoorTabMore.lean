/- More of tables: rows between two, what is found, what a filter answers. -/
import Derived.Test.YtkomnnijnggbpaaGreatDoorZ2
import Derived.Test.YtkomnnijnggbpaaGreatDoorBetween
import Derived.Test.YtkomnnijnggbpaaGreatDoorTabSmall
namespace Go.Proofs.YtkomnnijnggbpaaGreatDoor
open Go.RowKit
set_option linter.unusedVariables false

theorem ahead_none (r : List UInt8) : ahead r [] = false := by
 rw [← ahead_less]
 cases r <;> simp [Op.bytesLess]
theorem ahead_del {r : List UInt8} (h : nameOk r = true) : ahead r [127] = true := by
 obtain ⟨h1, h2, _⟩ := name_parts h
 rw [← ahead_less]
 cases r with
 | nil => simp at h2
 | cons c r =>
   have := sign_bd (h1 c (by simp))
   simp only [Op.bytesLess, Bool.or_eq_true, decide_eq_true_eq, UInt8.lt_iff_toNat_lt]
   left
   show c.toNat < 127
   omega
theorem row_first {x y : Cel} (hx : cellOk x = true) (hy : cellOk y = true) (h : Op.bytesLess (celKey x) (celKey y) = true) (lo : List UInt8) (hl : ahead y.row.data.toList lo = true) : ahead x.row.data.toList lo = true := by
 unfold celKey at h
 rw [keyOf_yes (cel_keyOk hx), keyOf_yes (cel_keyOk hy), less_key (cel_keyOk hx) (cel_keyOk hy)] at h
 split at h
 · rename_i e
   rw [e]; exact hl
 · rw [← ahead_less] at hl ⊢
   exact less_trans _ _ _ h hl
theorem filter_parts (p : Cel → Bool) : ∀ (xs : List Cel), xs.Pairwise (fun x y => p y = true → p x = true) → xs.filter p ++ xs.filter (fun x => !p x) = xs
 | [], _ => rfl
 | x :: r, h => by
   obtain ⟨h1, h2⟩ := List.pairwise_cons.1 h
   by_cases hp : p x = true
   · rw [List.filter_cons_of_pos hp, List.filter_cons_of_neg (by simp [hp]), List.cons_append, filter_parts p r h2]
   · have hn : r.filter p = [] := List.filter_eq_nil_iff.2 (fun y hy hpy => hp (h1 y hy hpy))
     have ha : r.filter (fun x => !p x) = r := List.filter_eq_self.2 (fun y hy => by
       by_cases hpy : p y = true
       · exact absurd (h1 y hy hpy) hp
       · simp [hpy])
     rw [List.filter_cons_of_neg hp, List.filter_cons_of_pos (by simp [hp]), hn, ha]; rfl
theorem scan_parts {xs : List Cel} (h : cellsOk xs = true) (lo : List UInt8) : xs.filter (between [] lo) ++ xs.filter (between lo [127]) = xs := by
 obtain ⟨h1, h2⟩ := (cellsOk_iff xs).1 h
 have e1 : xs.filter (between [] lo) = xs.filter (fun x => ahead x.row.data.toList lo) := List.filter_congr (fun x hx => by unfold between; rw [ahead_none]; rfl)
 have e2 : xs.filter (between lo [127]) = xs.filter (fun x => !(fun x : Cel => ahead x.row.data.toList lo) x) := List.filter_congr (fun x hx => by
   unfold between
   rw [ahead_del (keyOk_parts (cel_keyOk (h1 x hx))).1, Bool.and_true])
 rw [e1, e2]
 exact filter_parts _ _ (List.Pairwise.imp_of_mem (fun {a b} ha hb hab => row_first (h1 a ha) (h1 b hb) hab lo) h2)
theorem scan_ok {xs : List Cel} (h : cellsOk xs = true) (p : Cel → Bool) : cellsOk (xs.filter p) = true := by
 obtain ⟨h1, h2⟩ := (cellsOk_iff xs).1 h
 exact (cellsOk_iff _).2 ⟨fun x hx => h1 x (List.mem_filter.1 hx).1, h2.sublist List.filter_sublist⟩
theorem got_may {l : List UInt8} {xs : List Cel} {c : Conf} {k : Nat} (hT : Tab l xs c k) {r q : List UInt8} {t : Int} {x : Cel} (h : newest xs r q t = some x) : k = 0 ∧ mayHave (filterB (xs.map nameKey)) (r ++ 0 :: q) = true := by
 obtain ⟨hm, hf⟩ := newest_fits h
 obtain ⟨e1, e2, _⟩ := fits_parts hf
 have h60 := (tab_few hT).1
 refine ⟨?_, has_keys (by rw [List.length_map]; omega) (List.mem_map.2 ⟨x, hm, by unfold nameKey; rw [e1, e2]⟩)⟩
 rcases hT with ⟨h0, _⟩ | ⟨h0, _⟩
 · exact h0
 · rw [h0] at hm
   cases hm
theorem tab_back {xs : List Cel} {c : Conf} (h : tabOk xs c) : Tab (tableB xs c) xs c 0 := .inl ⟨rfl, h, rfl⟩
theorem tab_empty : Tab [] [] zeroConf 1 := tab_foot (by unfold endsRight; simp)
theorem put_short7 (xs : List Cel) (c : Conf) : (putTable xs c).length ≤ 130000 := by
 unfold putTable
 split
 · rename_i h
   exact table_short h
 · simp
theorem put_yes7 {xs : List Cel} {c : Conf} (h : tabOk xs c) : putTable xs c = tableB xs c := if_pos h
theorem put_no7 {xs : List Cel} {c : Conf} (h : ¬ tabOk xs c) : putTable xs c = [] := if_neg h
end Go.Proofs.YtkomnnijnggbpaaGreatDoor
