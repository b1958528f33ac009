/- The contracts of Cut and of the reference's U; the walk of the law CodecOne: for every text the call returns true, and nothing that was there has turned. -/
import Derived.Test.YtajcaglbbdbibaaDoorCOut2
import Derived.Test.YtajcaglbbdbibaaDoorCOneMath
namespace Go.Proofs.YtajcaglbbdbibaaDoor
open Go.RowKit
set_option linter.unusedVariables false
set_option maxRecDepth 100000

set_option maxHeartbeats 400000 in
theorem cut_any (s : ByteArray) (n : Nat) (w : World) (hs : s.size ≤ maxLen) :
    Calls Tryd.prog 9 #[.string s, .int .i64 n] w fun e w' => e = .returned (.string (S (s.data.toList.take n))) ∧ w' = w := by
  unfold maxLen at hs
  have ht : s.extract 0 n = S (s.data.toList.take n) := S_take s.data.toList n
  by_cases h : n < s.size
  · go_enter Tryd.func9, Tryd.ntmps9
    go_wp2
    go_ret
    exact ⟨rfl, rfl⟩
  · have e : S (s.data.toList.take n) = s := by
      rw [List.take_of_length_le (by show s.size ≤ n; omega)]; rfl
    rw [e]
    clear e ht
    go_enter Tryd.func9, Tryd.ntmps9
    go_wp2
    go_ret
    exact ⟨rfl, rfl⟩

theorem one_back (w : World) (a : UInt8) :
    (convert 58 9 (.slice (some ⟨w.heap.size, 0, none⟩) 1 1)).run Tryd.prog (w.alloc (.cells #[.int .u8 (a.toNat : Int)] 5)) =
      .ok (.string (S [a])) (w.alloc (.cells #[.int .u8 (a.toNat : Int)] 5)) := by
  refine run_convert_bytes_back _ 58 9 5 ⟨w.heap.size, 0, none⟩ 1 [a] under_bytes under_byte under_string ?_
  intro j hj
  simp at hj
  subst hj
  rw [plain_add]
  simp

theorem S_append (a b : List UInt8) : S a ++ S b = S (a ++ b) := by
  apply ByteArray.ext
  simp [S]

end Go.Proofs.YtajcaglbbdbibaaDoor
