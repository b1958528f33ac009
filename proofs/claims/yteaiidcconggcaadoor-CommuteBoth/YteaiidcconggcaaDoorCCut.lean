/- The contract of Cut. -/
import Derived.Test.YteaiidcconggcaaDoorBundleC2
namespace Go.Proofs.YteaiidcconggcaaDoor
open Go.RowKit
set_option linter.unusedVariables false
set_option maxRecDepth 100000

set_option maxHeartbeats 400000 in
theorem cut_any (s : ByteArray) (n : Nat) (w : World) (hs : s.size ≤ maxLen) :
    Calls Tryd.prog 44 #[.string s, .int .i64 n] w fun e w' => e = .returned (.string (S (s.data.toList.take n))) ∧ w' = w := by
  unfold maxLen at hs
  have ht : s.extract 0 n = S (s.data.toList.take n) := S_take s.data.toList n
  by_cases h : n < s.size
  · go_enter Tryd.func44, Tryd.ntmps44
    go_wp2
    go_ret
    exact ⟨rfl, rfl⟩
  · have e : S (s.data.toList.take n) = s := by
      rw [List.take_of_length_le (by show s.size ≤ n; omega)]; rfl
    rw [e]
    clear e ht
    go_enter Tryd.func44, Tryd.ntmps44
    go_wp2
    go_ret
    exact ⟨rfl, rfl⟩

end Go.Proofs.YteaiidcconggcaaDoor
