/- The document's sector of a text, and the answers that the statements ask for first. -/
import Derived.Test.YtajcaglbbdbibaaDoorDRead
import Derived.Test.YtajcaglbbdbibaaDoorDNew
import Derived.Test.YtajcaglbbdbibaaDoorDSpoil
namespace Go.Proofs.YtajcaglbbdbibaaDoor
open Go.RowKit
set_option linter.unusedVariables false
set_option maxRecDepth 100000

theorem whole_take (s : List UInt8) (k : Nat) (hk : k ≤ 64) (h : 64 ≤ s.length + k) : (s ++ List.replicate k 0).take 64 = whole s := by
  unfold whole
  have e : List.replicate 64 (0 : UInt8) = List.replicate k 0 ++ List.replicate (64 - k) 0 := by
    rw [List.replicate_append_replicate]; congr 1; omega
  rw [e, ← List.append_assoc]
  exact (List.take_append_of_le_length (by simp; omega)).symm
theorem numRow_one (w : World) (x : Int) (t : TypeId) : NumRow (w.alloc (.cells #[.int .i64 x] t)) (.slice (some ⟨w.heap.size, 0, none⟩) 1 1) [x] := by
  refine ⟨some ⟨w.heap.size, 0, none⟩, 1, rfl, fun j hj => ⟨w.heap.size, 0, rfl, ?_⟩⟩
  obtain rfl : j = 0 := by simp at hj; omega
  rw [block_cell (heap_alloc_new w _)]
  rfl
theorem S_snoc (l : List UInt8) (c : UInt8) : S l ++ ⟨#[c]⟩ = S (l ++ [c]) := by
  apply ByteArray.ext
  apply Array.ext'
  simp [S]
theorem S_take (l : List UInt8) (n : Nat) : (S l).extract 0 n = S (l.take n) := by
  apply ByteArray.ext
  apply Array.ext'
  simp [S]

end Go.Proofs.YtajcaglbbdbibaaDoor
