/- The contracts of Cut and of the reference's U; the walk of the law CodecOne: for every text the call returns true, and nothing that was there has turned. -/
import Derived.Test.YtkohcfmbfafkgabDoorCOut2
import Derived.Test.YtkohcfmbfafkgabDoorCOneMath
namespace Go.Proofs.YtkohcfmbfafkgabDoor
open Go.RowKit
set_option linter.unusedVariables false
set_option maxRecDepth 100000

theorem one_back (w : World) (a : UInt8) :
    (convert 46 9 (.slice (some ⟨w.heap.size, 0, none⟩) 1 1)).run Tryd.prog (w.alloc (.cells #[.int .u8 (a.toNat : Int)] 5)) =
      .ok (.string (S [a])) (w.alloc (.cells #[.int .u8 (a.toNat : Int)] 5)) := by
  refine run_convert_bytes_back _ 46 9 5 ⟨w.heap.size, 0, none⟩ 1 [a] under_bytes under_byte under_string ?_
  intro j hj
  simp at hj
  subst hj
  rw [plain_add]
  simp

theorem S_append (a b : List UInt8) : S a ++ S b = S (a ++ b) := by
  apply ByteArray.ext
  simp [S]

end Go.Proofs.YtkohcfmbfafkgabDoor
