/- The contract of a state's Check. -/
import Derived.Test.YteaiidcconggcaaDoorVCheck
namespace Go.Proofs.YteaiidcconggcaaDoor
open Go.RowKit
set_option linter.unusedVariables false
set_option maxRecDepth 100000

theorem word_none (k : Int) (h : k < 1 ∨ 7 < k) : wordOf k = [] := by
  unfold wordOf
  by_cases h0 : k < 0 ∨ 8 ≤ k
  · rw [if_pos h0]
  · rw [if_neg h0]
    have : k = 0 := by omega
    subst this
    rfl
theorem word_some (k : Int) (h : ¬ (k < 1 ∨ 7 < k)) : (S (wordOf k)).toList.isEmpty = false := by
  rw [S_isEmpty]
  have hk : k = 1 ∨ k = 2 ∨ k = 3 ∨ k = 4 ∨ k = 5 ∨ k = 6 ∨ k = 7 := by omega
  rcases hk with rfl | rfl | rfl | rfl | rfl | rfl | rfl <;> rfl

end Go.Proofs.YteaiidcconggcaaDoor
