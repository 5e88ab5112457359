/- Plain mathematics of the parts of a text between marks. -/
import Derived.Test.YtibimjbnhgehoaaBase
namespace Go.Proofs.Ytibimjbnhgehoaa
open Go.RowKit
set_option linter.unusedVariables false

/-- The parts of a text between marks; 'cur' is what has come of the first. -/
def partsOf (m : UInt8 → Bool) : List UInt8 → List UInt8 → List (List UInt8)
  | cur, [] => [cur]
  | cur, c :: cs => if m c then cur :: partsOf m [] cs else partsOf m (cur ++ [c]) cs

def text (l : List UInt8) : ByteArray := ⟨l.toArray⟩

/-- What is still to come where place k is reached and the part at hand begins at f. -/
def left (m : UInt8 → Bool) (s : ByteArray) (f k : Nat) : List ByteArray := (partsOf m ((s.data.toList.take k).drop f) (s.data.toList.drop k)).map text

theorem extract_text (s : ByteArray) (f k : Nat) : s.extract f k = text ((s.data.toList.take k).drop f) := by
  apply bytes_ext
  simp only [text, ByteArray.data_extract, Array.toList_extract, List.extract_eq_take_drop, List.drop_take]

theorem drop_cons (s : ByteArray) (k : Nat) (h : k < s.size) : s.data.toList.drop k = s[k] :: s.data.toList.drop (k + 1) := by
  rw [List.drop_eq_getElem_cons (by simpa using h)]; rfl

theorem left_go {m : UInt8 → Bool} {s : ByteArray} {f k : Nat} (h : k < s.size) (hf : f ≤ k) (hm : m s[k] = false) : left m s f k = left m s f (k + 1) := by
  unfold left
  rw [drop_cons s k h, partsOf, if_neg (by simp [hm]), take_snoc s k h, List.drop_append_of_le_length (by simp; omega)]

theorem left_mark {m : UInt8 → Bool} {s : ByteArray} {f k : Nat} (h : k < s.size) (hm : m s[k] = true) : left m s f k = s.extract f k :: left m s (k + 1) (k + 1) := by
  unfold left
  rw [drop_cons s k h, partsOf, if_pos hm, List.map_cons, extract_text]
  congr 4
  rw [List.drop_eq_nil_of_le (by simp; omega)]

theorem left_end {m : UInt8 → Bool} {s : ByteArray} {f : Nat} : left m s f s.size = [s.extract f s.size] := by
  have e : s.data.toList.drop s.size = [] := List.drop_eq_nil_of_le (by simp)
  unfold left
  rw [e, partsOf, extract_text]
  rfl

/-- Whether a byte is one of the marks. -/
def marked (marks : ByteArray) (c : UInt8) : Bool := decide (c ∈ marks.data.toList)

end Go.Proofs.Ytibimjbnhgehoaa
