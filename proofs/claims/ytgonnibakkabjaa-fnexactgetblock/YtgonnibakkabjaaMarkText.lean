/- The laws' marks: a text for each number. -/
import Derived.Test.YtgonnibakkabjaaProg
import Derived.Test.YtgonnibakkabjaaDigs
import Derived.Laws.BytesArg
import Derived.RangeFuncBox
import Derived.Deep.LoopGhost
import Derived.Deep.RegionHeld3
namespace Go.Proofs.Ytgonnibakkabjaa
open Go.RowKit
set_option linter.unusedVariables false

theorem new_cell' (w : World) (cs : Array Value) (T j : Nat) : (w.alloc (.cells cs T)).cell? ⟨w.heap.size, j, none⟩ = cs[j]? := by
  have : (w.alloc (.cells cs T)).heap[w.heap.size]? = some (.cells cs T (0, 0)) := by
    show (w.heap.push _)[w.heap.size]? = _
    rw [Array.getElem?_push, if_pos rfl]
  unfold World.cell?
  rw [this]
  rfl

/-- The mark of a number. -/
def mk (k : Nat) : ByteArray := ⟨(109 :: Lib.decDigits k).toArray⟩

theorem Told.tail {n k : Int} {l : List UInt8} (h : Told n k l) (hk : k ≠ 0) (h0 : 0 ≤ k) : Told n (k / 10) (UInt8.ofNat (48 + k.natAbs % 10) :: l) := h.next hk (by omega)

theorem byte_of (k : Int) (h : 0 < k) : (strOfNums [48 + k % 10]).data.toList = [UInt8.ofNat (48 + k.natAbs % 10)] := by
  rw [strOfNums_data]
  simp only [List.map_cons, List.map_nil]
  congr 2
  omega

set_option maxHeartbeats 400000 in
theorem markText_at (n : Nat) (w : World) (h0 : 0 < n) (h1 : n ≤ 1000000000) :
    Calls Try.prog 67 #[.int .i64 n] w fun e w' => e = .returned (.string (mk n)) ∧ Below w.heap.size w w' := by
  have hn0 : (0 : Int) < (n : Int) := by omega
  go_enter Try.func67, Try.ntmps67
  go_wp2
  go_loopw [0, 3] (fun m out wr => ∃ (k : Int) (l : List UInt8), 0 ≤ k ∧ k ≤ 1000000000 ∧ l.length ≤ 20 ∧ m = .int .i64 k ∧ out = .string ⟨l.toArray⟩ ∧ Told n k l ∧ Below w.heap.size w wr) (fun m _ _ => (intOf m).natAbs)
  case atStart => exact ⟨n, [], by omega, by omega, by simp, rfl, rfl, by unfold Told digs; rw [if_neg (by omega)]; simp, Below.refl _ _⟩
  case round =>
    obtain ⟨k, l, hk0, hk1, hl, rfl, rfl, HT, hb⟩ := hrel
    by_cases hk : k = 0
    · subst hk
      go_wp2
      go_ret
      refine ⟨congrArg (fun b => Ending.returned (.string b)) (bytes_ext ?_), hb⟩
      have := HT.done
      rw [Int.natAbs_natCast] at this
      simp [mk, this]
    · have hk2 : 0 < k := by omega
      have HT2 := Lib.hid (HT.tail hk hk0)
      have HB := Lib.hid hb
      have hl2 := HT2.out.len (by omega) (by omega)
      clear hk hb HT
      have hcv := run_convert_bytes_arg (P := Try.prog) (wr.alloc (.cells #[.int .u8 (48 + k % 10)] 5)) 22 5 Try.underlying22 Try.underlying5 wr.heap.size 0 1 1 [48 + k % 10] rfl (fun j hj => by
        obtain rfl : j = 0 := by omega
        rw [new_cell']; rfl) 9 Try.underlying9
      have hsz : (strOfNums [48 + k % 10]).size = 1 := by rw [strOfNums_size]; rfl
      go_wp2
      go_roundw
      case rel =>
        refine ⟨k / 10, _, by omega, by omega, hl2, rfl, congrArg Value.string (bytes_ext ?_), HT2.out, HB.out.alloc HB.out.size _⟩
        rw [ByteArray.data_append, Array.toList_append, byte_of k hk2]
        simp
      case measure => simp [intOf]; omega
end Go.Proofs.Ytgonnibakkabjaa
